/- The walk of the law on the variables of a term. -/
import Derived.Test.YthphlkfofbdncaaDraw7
import Derived.Test.YthphlkfofbdncaaLawL
import Derived.Test.YthphlkfofbdncaaLawQ
import Derived.Test.YthphlkfofbdncaaLawU
import Derived.Test.YthphlkfofbdncaaCont
namespace Go.Proofs.Ythphlkfofbdncaa
open Go.RowKit

theorem vl_mem (a b c d : Int) (k : Nat) (hk : k < 4) : ((k : Int) ∈ vl a b c d 4) ↔ sel a b c d (k : Int) 0 ≠ 0 := by
  simp only [vl, List.mem_map, List.mem_filter, List.mem_range, decide_eq_true_eq]
  constructor
  · rintro ⟨i, ⟨_, hi⟩, he⟩
    have e : i = k := by first | exact Int.ofNat_inj.1 he | exact Int.natCast_inj.1 he | omega
    subst e
    exact hi
  · intro h
    exact ⟨k, ⟨hk, h⟩, rfl⟩
theorem vl_none (a b c d : Int) : ((vl a b c d 4).length = 0) ↔ cont a b c d = 0 := by
  have e : cont a b c d = 0 ↔ (a = 0 ∧ b = 0) ∧ c = 0 ∧ d = 0 := by
    unfold cont
    simp [Int.gcd_eq_zero_iff]
    omega
  rw [e, List.length_eq_zero_iff, List.eq_nil_iff_forall_not_mem]
  constructor
  · intro h
    have g : ∀ k : Nat, k < 4 → sel a b c d (k : Int) 0 = 0 := fun k hk => by
      have := h (k : Int)
      rw [vl_mem a b c d k hk] at this
      simpa using this
    have g0 := g 0 (by omega)
    have g1 := g 1 (by omega)
    have g2 := g 2 (by omega)
    have g3 := g 3 (by omega)
    simp [sel] at g0 g1 g2 g3
    exact ⟨⟨g0, g1⟩, g2, g3⟩
  · rintro ⟨⟨rfl, rfl⟩, rfl, rfl⟩ x hx
    simp only [vl, List.mem_map, List.mem_filter] at hx
    obtain ⟨i, ⟨_, hi⟩, _⟩ := hx
    simp [sel] at hi

set_option maxHeartbeats 400000 in
theorem pbInts_same (v u : Value) (L : List Int) (w : World) (h1 : RdI w v L) (h2 : RdI w u L) (hL : L.length ≤ 1000000) :
    Calls Try.prog 66 #[v, u] w fun e w' => e = .returned (.bool true) ∧ Below w.heap.size w w' := by
  obtain ⟨sp, cap, rfl, hc⟩ := h1
  obtain ⟨sp', cap', rfl, hc'⟩ := h2
  obtain ⟨N, hN⟩ : ∃ N, N = L.length := ⟨_, rfl⟩
  rw [← hN] at hL hc hc' ⊢
  have HN := Lib.hid hN
  have HC := Lib.hid hc
  have HC' := Lib.hid hc'
  clear hN hc hc'
  go_enter Try.func66, Try.ntmps66
  go_wp2
  go_loopw [5] (fun i wr => ∃ k q : Nat, i = .int .i64 k ∧ k ≤ N ∧ wr = w.drewN q) (fun i _ => N - (intOf i).toNat)
  case atStart => exact ⟨0, 0, rfl, by omega, rfl⟩
  case round =>
    obtain ⟨k, q, rfl, hk, rfl⟩ := hrel
    by_cases hlt : k < N
    · have hk' : (k : Int) < (N : Int) := by omega
      obtain ⟨y, hy⟩ : ∃ y, L[k]? = some y := ⟨_, List.getElem?_eq_getElem (by rw [← HN.out]; exact hlt)⟩
      obtain ⟨b, rfl, _, hcell⟩ := HC.out.resolve_left (by omega)
      obtain ⟨b', rfl, _, hcell'⟩ := HC'.out.resolve_left (by omega)
      have c1 := hcell k y hy
      have c2 := hcell' k y hy
      clear hcell hcell' hy
      go_wp2
      go_quiet (fail)
      go_wp2
      go_roundw
      case rel => exact ⟨k + 1, _, by go_num, by omega, rfl⟩
      case measure => simp [intOf]; omega
    · have hk' : ¬ (k : Int) < (N : Int) := by omega
      go_wp2
      go_ret
      exact ⟨rfl, below_dq _ _ _⟩

set_option maxHeartbeats 400000 in
theorem pbHas_t (v : Value) (K : Int) (L : List Int) (t : Bool) (w : World) (h1 : RdI w v L) (ht : decide (K ∈ L) = t) (hL : L.length ≤ 1000000) :
    Calls Try.prog 67 #[v, .int .i64 K] w fun e w' => e = .returned (.bool t) ∧ w = w' := by
  obtain ⟨sp, cap, rfl, hc⟩ := h1
  obtain ⟨N, hN⟩ : ∃ N, N = L.length := ⟨_, rfl⟩
  rw [← hN] at hL hc ⊢
  have HN := Lib.hid hN
  have HC := Lib.hid hc
  have HT := Lib.hid ht
  clear hN hc ht
  go_enter Try.func67, Try.ntmps67
  go_wp2
  go_loop [5] (fun i => ∃ k : Nat, i = .int .i64 k ∧ k ≤ N ∧ Hid (∀ j : Nat, j < k → L[j]? ≠ some K)) (fun i => N - (intOf i).toNat)
  case atStart => exact ⟨0, rfl, by omega, Lib.hid (fun j hj => absurd hj (by omega))⟩
  case round =>
    obtain ⟨k, rfl, hk, HK⟩ := hrel
    by_cases hlt : k < N
    · have hk' : (k : Int) < (N : Int) := by omega
      obtain ⟨y, hy⟩ : ∃ y, L[k]? = some y := ⟨_, List.getElem?_eq_getElem (by rw [← HN.out]; exact hlt)⟩
      obtain ⟨b, rfl, _, hcell⟩ := HC.out.resolve_left (by omega)
      have c1 := hcell k y hy
      have HY := Lib.hid hy
      clear hcell hy
      by_cases hyK : y = K
      · subst hyK
        go_wp2
        go_ret
        exact ⟨ret_bool (by rw [← HT.out]; exact (decide_eq_true (List.mem_of_getElem? HY.out)).symm), rfl⟩
      · have e1 : (y == K) = false := by simpa using hyK
        have HK2 : Hid (∀ j : Nat, j < k + 1 → L[j]? ≠ some K) := Lib.hid (fun j hj => by
          by_cases hjk : j = k
          · subst hjk; rw [HY.out]; simpa using hyK
          · exact HK.out j (by omega))
        clear hyK
        go_wp2
        go_round
        case rel => exact ⟨k + 1, by go_num, by omega, HK2⟩
        case measure => simp [intOf]; omega
    · have hk' : ¬ (k : Int) < (N : Int) := by omega
      obtain rfl : k = N := by omega
      go_wp2
      go_ret
      refine ⟨ret_bool ?_, rfl⟩
      rw [← HT.out]
      refine (decide_eq_false ?_).symm
      intro hm
      obtain ⟨j, hj⟩ := List.mem_iff_getElem?.1 hm
      exact HK.out j (by rw [HN.out]; exact (List.getElem?_eq_some_iff.1 hj).1) hj

theorem bump_point (a b c d m px py pz pu : Int) (k j : Nat) (hk : k < 4) (hj : j < 4) (h0 : 0 ≤ px ∧ px ≤ 6) (h1 : 0 ≤ py ∧ py ≤ 5) (h2 : 0 ≤ pz ∧ pz ≤ 4) (h3 : 0 ≤ pu ∧ pu ≤ 3) :
    ∃ s qx qy qz qu : Int, 0 ≤ s ∧ s ≤ 6 ∧
      (∀ W, Calls Try.prog 46 #[.agg #[.int .i64 px, .int .i64 py, .int .i64 pz, .int .i64 pu], .int .i64 (k : Int)] W fun e w' => e = .returned (.int .i64 s) ∧ Below W.heap.size W w') ∧
      (∀ W, Calls Try.prog 44 #[.agg #[.int .i64 px, .int .i64 py, .int .i64 pz, .int .i64 pu], .int .i64 (k : Int), .int .i64 (s + 1 + (j : Int))] W fun e w' => e = .returned (.tuple #[.agg #[.int .i64 qx, .int .i64 qy, .int .i64 qz, .int .i64 qu], .bool true]) ∧ Below W.heap.size W w') ∧
      pvB qx qy qz qu = true ∧ ev a b c d m qx qy qz qu = ev a b c d m px py pz pu + sel a b c d (k : Int) 0 * (1 + (j : Int)) := by
  have hs : 0 ≤ sel px py pz pu (k : Int) (-1) ∧ sel px py pz pu (k : Int) (-1) ≤ 6 := by
    have h' : k = 0 ∨ k = 1 ∨ k = 2 ∨ k = 3 := by omega
    rcases h' with rfl | rfl | rfl | rfl <;> simp [sel] <;> omega
  have hw : wvB px py pz pu (k : Int) (sel px py pz pu (k : Int) (-1) + 1 + (j : Int)) = true := by
    simp [wvB, pvB, inB, varB]; omega
  refine ⟨_, _, _, _, _, hs.1, hs.2, fun W => ValueOf_any px py pz pu (k : Int) W, fun W => WithValue_ok px py pz pu (k : Int) _ W hw, ?_, ?_⟩
  · simp only [pvB, inB, Bool.and_eq_true, decide_eq_true_eq]
    refine ⟨⟨⟨?_, ?_⟩, ?_⟩, ?_⟩ <;> split <;> omega
  · have h' : k = 0 ∨ k = 1 ∨ k = 2 ∨ k = 3 := by omega
    rcases h' with rfl | rfl | rfl | rfl <;> simp [sel, ev, Int.mul_add] <;> omega

theorem keep544 {W w' : World} {q t s : Nat} {a b c d n x y z u x' y' z' u' : Int} (h2 : C5 W q a b c d n) (h4 : C4 W t x y z u) (h5 : C4 W s x' y' z' u') (hB : Below W.heap.size W w') :
    Below W.heap.size W w' ∧ (w'.cell? ⟨q, 0, none⟩ = some (.int .i64 a) ∧ w'.cell? ⟨q, 1, none⟩ = some (.int .i64 b) ∧ w'.cell? ⟨q, 2, none⟩ = some (.int .i64 c) ∧ w'.cell? ⟨q, 3, none⟩ = some (.int .i64 d) ∧ w'.cell? ⟨q, 4, none⟩ = some (.int .i64 n)) ∧ (w'.cell? ⟨t, 0, none⟩ = some (.int .i64 x) ∧ w'.cell? ⟨t, 1, none⟩ = some (.int .i64 y) ∧ w'.cell? ⟨t, 2, none⟩ = some (.int .i64 z) ∧ w'.cell? ⟨t, 3, none⟩ = some (.int .i64 u)) ∧ (w'.cell? ⟨s, 0, none⟩ = some (.int .i64 x') ∧ w'.cell? ⟨s, 1, none⟩ = some (.int .i64 y') ∧ w'.cell? ⟨s, 2, none⟩ = some (.int .i64 z') ∧ w'.cell? ⟨s, 3, none⟩ = some (.int .i64 u')) := ⟨hB, (c5_on h2 hB).2, (c4_on h4 hB).2, (c4_on h5 hB).2⟩

set_option maxHeartbeats 20000000 in
theorem termVars_walk (sp : Option Addr) (n cap : Nat) (w : World) (h : Code w sp n cap) :
    Calls Try.prog 16 #[.slice sp n cap] w fun e w' => e = .returned (.bool true) ∧ Below w.heap.size w w' := by
  have hc1 := h.1
  have hc2 := h.2.1
  have H := Lib.hid h
  clear h
  by_cases hn : n ≤ 1048576
  · have hn' : ¬ (1048576 : Int) < (n : Int) := by omega
    go_enter Try.func16, Try.ntmps16
    go_wp2_with fail
    refine (DrawTermVars_t sp n cap w H.out).mono ?_
    rintro e w1 ⟨a, b, c, d, m, rfl, hb1⟩
    have hbs := hb1.size
    have HC1 := Lib.hid (code_on H.out hb1)
    go_wp2_with fail
    generalize hW : w1.alloc (.cells #[.int .i64 a, .int .i64 b, .int .i64 c, .int .i64 d, .int .i64 m] 27) = W
    have hx : C5 W w1.heap.size a b c d m := by subst hW; exact (by refine ⟨?_, ?_, ?_, ?_, ?_, ?_⟩ <;> first | (simp [go_sem]; done) | (simp; omega))
    have hw1 : Below w1.heap.size w1 W := by subst hW; go_grown
    have hw0 : Below w.heap.size w W := below_on hb1 hw1
    have HC := Lib.hid (code_on HC1.out hw1)
    clear hW
    have hlen0 := vl_len a b c d 4
    have hmem := fun k (hk : k < 4) => vl_mem a b c d k hk
    have hnone := vl_none a b c d
    have hi := fun W => TermVars_t a b c d m W
    have hs := fun W => specTermVars_t a b c d m W
    unfold VarsT at hi hs
    obtain ⟨L, hL⟩ : ∃ L, L = vl a b c d 4 := ⟨_, rfl⟩
    rw [← hL] at hlen0 hnone hi hs
    simp only [← hL] at hmem
    have hlen : L.length ≤ 1000000 := by omega
    have HI := Lib.hid hi
    have HS := Lib.hid hs
    have HMEM := Lib.hid hmem
    have HNONE := Lib.hid hnone
    clear hi hs hmem hnone hL
    obtain ⟨x0, x1, x2, x3, x4, x5⟩ := id hx
    refine (HI.out _).mono ?_
    rintro e w2 ⟨v0, rfl, ho, hb2⟩
    have HR := Lib.hid (own_reads ho)
    clear ho x0 x1 x2 x3 x4 x5
    obtain ⟨x0, x1, x2, x3, x4, x5⟩ := c5_on hx hb2
    go_wp2_with fail
    refine (HS.out _).mono ?_
    rintro e w3 ⟨v1, rfl, ho, hb3⟩
    have HR1 := Lib.hid (own_reads ho)
    have hb13 := below_on hb2 hb3
    clear ho x0 x1 x2 x3 x4 x5
    go_wp2_with fail
    refine (pbInts_same _ _ L _ (reads_on HR.out hb3) HR1.out hlen).mono ?_
    rintro e w4 ⟨rfl, hb4⟩
    have hb14 := below_on hb13 hb4
    have HR4 := Lib.hid (reads_on HR.out (below_on hb3 hb4))
    clear HR1
    obtain ⟨x0, x1, x2, x3, x4, x5⟩ := c5_on hx hb14
    by_cases htv : tvB a b c d m = true
    · have T1 := Lib.hid htv
      have hct := fun W => ContentOf_ok a b c d m W htv
      obtain ⟨G, hG⟩ : ∃ G, cont a b c d = G := ⟨_, rfl⟩
      rw [hG] at hct
      have HN := HNONE.out
      rw [hG] at HN
      have HCT := Lib.hid hct
      have HNO := Lib.hid HN
      clear htv hct hG HN
      go_wp2_with fail
      refine (TermValid_is _ _ _ _ _ true _ T1.out).mono ?_
      rintro e W5 ⟨rfl, hw5⟩
      have hb45 : Below w4.heap.size w4 W5 := by subst hw5; go_grown
      clear hw5 x0 x1 x2 x3 x4 x5
      have hbW5 := below_on hb14 hb45
      have hx5 := c5_on hx hbW5
      have HR5 := Lib.hid (reads_on HR4.out hb45)
      have HC5 := Lib.hid (code_on HC.out hbW5)
      go_wp2_with fail
      go_loopw [5] (fun i wr => ∃ k : Nat, i = .int .i64 k ∧ k ≤ 4 ∧ Below W5.heap.size W5 wr) (fun i _ => 4 - (intOf i).toNat)
      case atStart => exact ⟨0, rfl, by omega, Below.refl _ _⟩
      case round =>
        obtain ⟨k, rfl, hk, hbl⟩ := hrel
        by_cases hk4 : k < 4
        · have hk' : (k : Int) < 4 := by omega
          have hm := HMEM.out k hk4
          have qc := fun W => CoefOf_any a b c d m (k : Int) W
          obtain ⟨cv, hcv⟩ : ∃ q, sel a b c d (k : Int) 0 = q := ⟨_, rfl⟩
          rw [hcv] at hm qc
          have HCV := Lib.hid hcv
          clear hcv
          by_cases h0 : cv = 0
          · subst h0
            have HH : Hid (decide ((k : Int) ∈ L) = false) := Lib.hid (by simpa using hm)
            have QCF := Lib.hid qc
            clear hm qc
            go_wp2_with fail
            go_loopw [6, 7] (fun sv i wr => ∃ j : Nat, i = .int .i64 j ∧ j ≤ 4 ∧ sv = .bool true ∧ Below W5.heap.size W5 wr) (fun _ i _ => 4 - (intOf i).toNat)
            case atStart => exact ⟨0, rfl, by omega, rfl, hbl⟩
            case round =>
              clear hbl
              obtain ⟨j, rfl, hj, rfl, hbl⟩ := hrel
              by_cases hj4 : j < 4
              · have hj' : (j : Int) < 4 := by omega
                go_wp2_with fail
                refine (pbPoint_any sp n cap j wr (code_on HC5.out hbl) hn (by omega) (by omega)).mono ?_
                rintro e w6 ⟨px, py, pz, pu, rfl, hb6, ⟨px0, px1⟩, ⟨py0, py1⟩, ⟨pz0, pz1⟩, pu0, pu1⟩
                have hpv : pvB px py pz pu = true := by simp [pvB, inB]; omega
                obtain ⟨s, qx, qy, qz, qu, s0, s1, c1, c2, hpq, hev⟩ := bump_point a b c d m px py pz pu k j hk4 hj4 ⟨px0, px1⟩ ⟨py0, py1⟩ ⟨pz0, pz1⟩ ⟨pu0, pu1⟩
                have q1 := fun W => pbEval_ok a b c d m px py pz pu W (by simp [T1.out, hpv])
                have q2 := fun W => pbEval_ok a b c d m qx qy qz qu W (by simp [T1.out, hpq])
                obtain ⟨E, hE⟩ : ∃ E, ev a b c d m px py pz pu = E := ⟨_, rfl⟩
                obtain ⟨F, hF⟩ : ∃ E, ev a b c d m qx qy qz qu = E := ⟨_, rfl⟩
                rw [hE, hF, HCV.out] at hev
                rw [hE] at q1
                rw [hF] at q2
                have Q1 := Lib.hid q1
                have Q2 := Lib.hid q2
                have QV := Lib.hid c1
                have QW := Lib.hid c2
                have hw1 : IntKind.i64.wrap (s + 1) = s + 1 := by rw [IntKind.wrap_i64]; omega
                have hw2 : IntKind.i64.wrap (s + 1 + (j : Int)) = s + 1 + (j : Int) := by rw [IntKind.wrap_i64]; omega
                have hb6W := below_on hbl hb6
                have HEV := Lib.hid hev
                clear q1 q2 c1 c2 hpq hev hE hF hpv px0 px1 py0 py1 pz0 pz1 pu0 pu1
                go_wp2_with fail
                generalize hW6 : w6.alloc (.cells #[.int .i64 px, .int .i64 py, .int .i64 pz, .int .i64 pu] 54) = W6
                have hb66 : Below w6.heap.size w6 W6 := by subst hW6; go_grown
                have hp : C4 W6 w6.heap.size px py pz pu := by subst hW6; exact (by refine ⟨?_, ?_, ?_, ?_, ?_⟩ <;> first | (simp [go_sem]; done) | (simp; omega))
                clear hW6
                have HB6 := Lib.hid (below_on hb6W hb66)
                clear hb6W hb6 hb66 hbl
                go_cut [9, 10] from 36 to 64 (fun p q W => PtAt W6 qx qy qz qu true p q W)
                case first =>
                  go_region_held3 (fun w' => Below W6.heap.size W6 w' ∧ (w'.cell? ⟨w6.heap.size, 0, none⟩ = some (.int .i64 px) ∧ w'.cell? ⟨w6.heap.size, 1, none⟩ = some (.int .i64 py) ∧ w'.cell? ⟨w6.heap.size, 2, none⟩ = some (.int .i64 pz) ∧ w'.cell? ⟨w6.heap.size, 3, none⟩ = some (.int .i64 pu))) (exact keep4 hp (by go_grown)) (first | (go_at_call 46; (with_reducible refine (QV.out _).mono ?_); rintro e wa ⟨rfl, hba⟩; have hbba := below_on (w := W6) (by go_grown) hba; have hsa : W6.heap.size ≤ wa.heap.size := hbba.size; have hza := hba.size; (try simp at hza); (first | (with_reducible have n6 := new4 hba) | (with_reducible have n6 := new4d hba) | (with_reducible have n6 := new4n hba) | skip); (try obtain ⟨⟨n60, n61, n62, n63, n64⟩, m6⟩ := id n6)) | (go_at_call 44; (with_reducible refine (QW.out _).mono ?_); rintro e wb ⟨rfl, hbb⟩; have hbbb := below_on (w := W6) (by go_grown) hbb; have hsb : W6.heap.size ≤ wb.heap.size := hbbb.size; have hzb := hbb.size; (try simp at hzb); (first | (with_reducible have n7 := new4 hbb) | (with_reducible have n7 := new4d hbb) | (with_reducible have n7 := new4n hbb) | (with_reducible have n7 := old4 n6 hbb) | (with_reducible have n7 := old4d n6 hbb) | (with_reducible have n7 := old4n n6 hbb) | skip); (try obtain ⟨⟨n70, n71, n72, n73, n74⟩, m7⟩ := id n7)))
                  all_goals
                    go_wp2_with fail
                    go_meet
                    first | (refine ⟨_, rfl, rfl, ?_⟩; first | (with_reducible exact pt_new hbbb) | (with_reducible exact pt_new (below_drew hbbb)) | (with_reducible exact pt_new (below_drewN hbbb)) | ((with_reducible refine pt_box hbbb n7 ?_); omega))
                case rest =>
                  obtain ⟨t, rfl, rfl, hq, _, ht, hBc⟩ := hcut
                  have hp2 := c4_on hp hBc
                  have hB7 := below_on HB6.out hBc
                  have g1 := c5_on hx5 hB7
                  have HB7 := Lib.hid hB7
                  obtain ⟨Wc, hWc⟩ : ∃ W, W = wc := ⟨_, rfl⟩
                  clear hBc hB7 hp hw1 hw2
                  subst hWc
                  go_wp2_with fail
                  obtain rfl : F = E := by have := HEV.out; omega
                  go_region_held3 (fun w' => Below Wc.heap.size Wc w' ∧ (w'.cell? ⟨w1.heap.size, 0, none⟩ = some (.int .i64 a) ∧ w'.cell? ⟨w1.heap.size, 1, none⟩ = some (.int .i64 b) ∧ w'.cell? ⟨w1.heap.size, 2, none⟩ = some (.int .i64 c) ∧ w'.cell? ⟨w1.heap.size, 3, none⟩ = some (.int .i64 d) ∧ w'.cell? ⟨w1.heap.size, 4, none⟩ = some (.int .i64 m)) ∧ (w'.cell? ⟨w6.heap.size, 0, none⟩ = some (.int .i64 px) ∧ w'.cell? ⟨w6.heap.size, 1, none⟩ = some (.int .i64 py) ∧ w'.cell? ⟨w6.heap.size, 2, none⟩ = some (.int .i64 pz) ∧ w'.cell? ⟨w6.heap.size, 3, none⟩ = some (.int .i64 pu)) ∧ (w'.cell? ⟨t, 0, none⟩ = some (.int .i64 qx) ∧ w'.cell? ⟨t, 1, none⟩ = some (.int .i64 qy) ∧ w'.cell? ⟨t, 2, none⟩ = some (.int .i64 qz) ∧ w'.cell? ⟨t, 3, none⟩ = some (.int .i64 qu))) (exact keep544 g1 hp2 hq (by go_grown)) (first | (go_at_call 53; (with_reducible refine (Q1.out _).mono ?_); rintro e w8 ⟨rfl, hb8⟩; have hbb8 := below_on (w := Wc) (by go_grown) hb8; have hs8 : Wc.heap.size ≤ w8.heap.size := hbb8.size) | (go_at_call 53; (with_reducible refine (Q2.out _).mono ?_); rintro e w9 ⟨rfl, hb9⟩; have hbb9 := below_on (w := Wc) (by go_grown) hb9; have hs9 : Wc.heap.size ≤ w9.heap.size := hbb9.size))
                  all_goals
                    go_wp2
                    go_roundw
                    case rel => exact ⟨j + 1, by go_num, by omega, rfl, below_on HB7.out (by go_grown)⟩
                    case measure => simp [intOf]; omega
              · have hj' : ¬ (j : Int) < 4 := by omega
                obtain rfl : j = 4 := by omega
                have g1 := c5_on hx5 hbl
                have HR6 := Lib.hid (reads_on HR5.out hbl)
                have HBL := Lib.hid hbl
                obtain ⟨Wl, hWl⟩ : ∃ W, W = wr := ⟨_, rfl⟩
                clear hbl
                subst hWl
                go_wp2_with fail
                go_region_held3 (fun w' => Below Wl.heap.size Wl w' ∧ (w'.cell? ⟨w1.heap.size, 0, none⟩ = some (.int .i64 a) ∧ w'.cell? ⟨w1.heap.size, 1, none⟩ = some (.int .i64 b) ∧ w'.cell? ⟨w1.heap.size, 2, none⟩ = some (.int .i64 c) ∧ w'.cell? ⟨w1.heap.size, 3, none⟩ = some (.int .i64 d) ∧ w'.cell? ⟨w1.heap.size, 4, none⟩ = some (.int .i64 m))) (exact keep5 g1 (by go_grown)) (first | (go_at_call 67; refine (pbHas_t _ _ L false _ (reads_on HR6.out (by go_grown)) HH.out hlen).mono ?_; rintro e w' ⟨rfl, rfl⟩) | (go_at_call 52; (with_reducible refine (QCF.out _).mono ?_); rintro e w7 ⟨rfl, hb7⟩; have hbb7 := below_on (w := Wl) (by go_grown) hb7; have hs7 : Wl.heap.size ≤ w7.heap.size := hbb7.size))
                all_goals
                  go_wp2
                  go_roundw
                  case rel => exact ⟨k + 1, by go_num, by omega, below_on HBL.out (by go_grown)⟩
                  case measure => simp [intOf]; omega
          · have HH : Hid (decide ((k : Int) ∈ L) = true) := Lib.hid (by simpa using hm.2 h0)
            have e0 : (cv == 0) = false := by simpa using h0
            have e1 : (cv != 0) = true := by simpa using h0
            have QCF := Lib.hid qc
            have HNZ := Lib.hid h0
            clear hm qc h0
            go_wp2_with fail
            go_loopw [6, 7] (fun sv i wr => ∃ j : Nat, i = .int .i64 j ∧ j ≤ 4 ∧ sv = .bool (decide (j = 0)) ∧ Below W5.heap.size W5 wr) (fun _ i _ => 4 - (intOf i).toNat)
            case atStart => exact ⟨0, rfl, by omega, rfl, hbl⟩
            case round =>
              clear hbl
              obtain ⟨j, rfl, hj, rfl, hbl⟩ := hrel
              by_cases hj4 : j < 4
              · have hj' : (j : Int) < 4 := by omega
                by_cases hj0 : j = 0
                · have hjd : decide (j = 0) = true := by simpa using hj0
                  rw [hjd]
                  clear hj0 hjd
                  go_wp2_with fail
                  refine (pbPoint_any sp n cap j wr (code_on HC5.out hbl) hn (by omega) (by omega)).mono ?_
                  rintro e w6 ⟨px, py, pz, pu, rfl, hb6, ⟨px0, px1⟩, ⟨py0, py1⟩, ⟨pz0, pz1⟩, pu0, pu1⟩
                  have hpv : pvB px py pz pu = true := by simp [pvB, inB]; omega
                  obtain ⟨s, qx, qy, qz, qu, s0, s1, c1, c2, hpq, hev⟩ := bump_point a b c d m px py pz pu k j hk4 hj4 ⟨px0, px1⟩ ⟨py0, py1⟩ ⟨pz0, pz1⟩ ⟨pu0, pu1⟩
                  have q1 := fun W => pbEval_ok a b c d m px py pz pu W (by simp [T1.out, hpv])
                  have q2 := fun W => pbEval_ok a b c d m qx qy qz qu W (by simp [T1.out, hpq])
                  obtain ⟨E, hE⟩ : ∃ E, ev a b c d m px py pz pu = E := ⟨_, rfl⟩
                  obtain ⟨F, hF⟩ : ∃ E, ev a b c d m qx qy qz qu = E := ⟨_, rfl⟩
                  rw [hE, hF, HCV.out] at hev
                  rw [hE] at q1
                  rw [hF] at q2
                  have Q1 := Lib.hid q1
                  have Q2 := Lib.hid q2
                  have QV := Lib.hid c1
                  have QW := Lib.hid c2
                  have hw1 : IntKind.i64.wrap (s + 1) = s + 1 := by rw [IntKind.wrap_i64]; omega
                  have hw2 : IntKind.i64.wrap (s + 1 + (j : Int)) = s + 1 + (j : Int) := by rw [IntKind.wrap_i64]; omega
                  have hb6W := below_on hbl hb6
                  have HEV := Lib.hid hev
                  clear q1 q2 c1 c2 hpq hev hE hF hpv px0 px1 py0 py1 pz0 pz1 pu0 pu1
                  go_wp2_with fail
                  generalize hW6 : w6.alloc (.cells #[.int .i64 px, .int .i64 py, .int .i64 pz, .int .i64 pu] 54) = W6
                  have hb66 : Below w6.heap.size w6 W6 := by subst hW6; go_grown
                  have hp : C4 W6 w6.heap.size px py pz pu := by subst hW6; exact (by refine ⟨?_, ?_, ?_, ?_, ?_⟩ <;> first | (simp [go_sem]; done) | (simp; omega))
                  clear hW6
                  have HB6 := Lib.hid (below_on hb6W hb66)
                  clear hb6W hb6 hb66 hbl
                  go_cut [9, 10] from 36 to 64 (fun p q W => PtAt W6 qx qy qz qu true p q W)
                  case first =>
                    go_region_held3 (fun w' => Below W6.heap.size W6 w' ∧ (w'.cell? ⟨w6.heap.size, 0, none⟩ = some (.int .i64 px) ∧ w'.cell? ⟨w6.heap.size, 1, none⟩ = some (.int .i64 py) ∧ w'.cell? ⟨w6.heap.size, 2, none⟩ = some (.int .i64 pz) ∧ w'.cell? ⟨w6.heap.size, 3, none⟩ = some (.int .i64 pu))) (exact keep4 hp (by go_grown)) (first | (go_at_call 46; (with_reducible refine (QV.out _).mono ?_); rintro e wa ⟨rfl, hba⟩; have hbba := below_on (w := W6) (by go_grown) hba; have hsa : W6.heap.size ≤ wa.heap.size := hbba.size; have hza := hba.size; (try simp at hza); (first | (with_reducible have n6 := new4 hba) | (with_reducible have n6 := new4d hba) | (with_reducible have n6 := new4n hba) | skip); (try obtain ⟨⟨n60, n61, n62, n63, n64⟩, m6⟩ := id n6)) | (go_at_call 44; (with_reducible refine (QW.out _).mono ?_); rintro e wb ⟨rfl, hbb⟩; have hbbb := below_on (w := W6) (by go_grown) hbb; have hsb : W6.heap.size ≤ wb.heap.size := hbbb.size; have hzb := hbb.size; (try simp at hzb); (first | (with_reducible have n7 := new4 hbb) | (with_reducible have n7 := new4d hbb) | (with_reducible have n7 := new4n hbb) | (with_reducible have n7 := old4 n6 hbb) | (with_reducible have n7 := old4d n6 hbb) | (with_reducible have n7 := old4n n6 hbb) | skip); (try obtain ⟨⟨n70, n71, n72, n73, n74⟩, m7⟩ := id n7)))
                    all_goals
                      go_wp2_with fail
                      go_meet
                      first | (refine ⟨_, rfl, rfl, ?_⟩; first | (with_reducible exact pt_new hbbb) | (with_reducible exact pt_new (below_drew hbbb)) | (with_reducible exact pt_new (below_drewN hbbb)) | ((with_reducible refine pt_box hbbb n7 ?_); omega))
                  case rest =>
                    obtain ⟨t, rfl, rfl, hq, _, ht, hBc⟩ := hcut
                    have hp2 := c4_on hp hBc
                    have hB7 := below_on HB6.out hBc
                    have g1 := c5_on hx5 hB7
                    have HB7 := Lib.hid hB7
                    obtain ⟨Wc, hWc⟩ : ∃ W, W = wc := ⟨_, rfl⟩
                    clear hBc hB7 hp hw1 hw2
                    subst hWc
                    go_wp2_with fail
                    have hne : (E == F) = false := by
                      have h1 := HEV.out
                      have h2 := HNZ.out
                      have h3 : cv * (1 + (j : Int)) ≠ 0 := Int.mul_ne_zero h2 (by omega)
                      simp; omega
                    go_region_held3 (fun w' => Below Wc.heap.size Wc w' ∧ (w'.cell? ⟨w1.heap.size, 0, none⟩ = some (.int .i64 a) ∧ w'.cell? ⟨w1.heap.size, 1, none⟩ = some (.int .i64 b) ∧ w'.cell? ⟨w1.heap.size, 2, none⟩ = some (.int .i64 c) ∧ w'.cell? ⟨w1.heap.size, 3, none⟩ = some (.int .i64 d) ∧ w'.cell? ⟨w1.heap.size, 4, none⟩ = some (.int .i64 m)) ∧ (w'.cell? ⟨w6.heap.size, 0, none⟩ = some (.int .i64 px) ∧ w'.cell? ⟨w6.heap.size, 1, none⟩ = some (.int .i64 py) ∧ w'.cell? ⟨w6.heap.size, 2, none⟩ = some (.int .i64 pz) ∧ w'.cell? ⟨w6.heap.size, 3, none⟩ = some (.int .i64 pu)) ∧ (w'.cell? ⟨t, 0, none⟩ = some (.int .i64 qx) ∧ w'.cell? ⟨t, 1, none⟩ = some (.int .i64 qy) ∧ w'.cell? ⟨t, 2, none⟩ = some (.int .i64 qz) ∧ w'.cell? ⟨t, 3, none⟩ = some (.int .i64 qu))) (exact keep544 g1 hp2 hq (by go_grown)) (first | (go_at_call 53; (with_reducible refine (Q1.out _).mono ?_); rintro e w8 ⟨rfl, hb8⟩; have hbb8 := below_on (w := Wc) (by go_grown) hb8; have hs8 : Wc.heap.size ≤ w8.heap.size := hbb8.size) | (go_at_call 53; (with_reducible refine (Q2.out _).mono ?_); rintro e w9 ⟨rfl, hb9⟩; have hbb9 := below_on (w := Wc) (by go_grown) hb9; have hs9 : Wc.heap.size ≤ w9.heap.size := hbb9.size))
                    all_goals
                      go_wp2
                      go_roundw
                      case rel => exact ⟨j + 1, by go_num, by omega, by simp, below_on HB7.out (by go_grown)⟩
                      case measure => simp [intOf]; omega
                · have hjd : decide (j = 0) = false := by simpa using hj0
                  rw [hjd]
                  clear hj0 hjd
                  go_wp2_with fail
                  refine (pbPoint_any sp n cap j wr (code_on HC5.out hbl) hn (by omega) (by omega)).mono ?_
                  rintro e w6 ⟨px, py, pz, pu, rfl, hb6, ⟨px0, px1⟩, ⟨py0, py1⟩, ⟨pz0, pz1⟩, pu0, pu1⟩
                  have hpv : pvB px py pz pu = true := by simp [pvB, inB]; omega
                  obtain ⟨s, qx, qy, qz, qu, s0, s1, c1, c2, hpq, hev⟩ := bump_point a b c d m px py pz pu k j hk4 hj4 ⟨px0, px1⟩ ⟨py0, py1⟩ ⟨pz0, pz1⟩ ⟨pu0, pu1⟩
                  have q1 := fun W => pbEval_ok a b c d m px py pz pu W (by simp [T1.out, hpv])
                  have q2 := fun W => pbEval_ok a b c d m qx qy qz qu W (by simp [T1.out, hpq])
                  obtain ⟨E, hE⟩ : ∃ E, ev a b c d m px py pz pu = E := ⟨_, rfl⟩
                  obtain ⟨F, hF⟩ : ∃ E, ev a b c d m qx qy qz qu = E := ⟨_, rfl⟩
                  rw [hE, hF, HCV.out] at hev
                  rw [hE] at q1
                  rw [hF] at q2
                  have Q1 := Lib.hid q1
                  have Q2 := Lib.hid q2
                  have QV := Lib.hid c1
                  have QW := Lib.hid c2
                  have hw1 : IntKind.i64.wrap (s + 1) = s + 1 := by rw [IntKind.wrap_i64]; omega
                  have hw2 : IntKind.i64.wrap (s + 1 + (j : Int)) = s + 1 + (j : Int) := by rw [IntKind.wrap_i64]; omega
                  have hb6W := below_on hbl hb6
                  have HEV := Lib.hid hev
                  clear q1 q2 c1 c2 hpq hev hE hF hpv px0 px1 py0 py1 pz0 pz1 pu0 pu1
                  go_wp2_with fail
                  generalize hW6 : w6.alloc (.cells #[.int .i64 px, .int .i64 py, .int .i64 pz, .int .i64 pu] 54) = W6
                  have hb66 : Below w6.heap.size w6 W6 := by subst hW6; go_grown
                  have hp : C4 W6 w6.heap.size px py pz pu := by subst hW6; exact (by refine ⟨?_, ?_, ?_, ?_, ?_⟩ <;> first | (simp [go_sem]; done) | (simp; omega))
                  clear hW6
                  have HB6 := Lib.hid (below_on hb6W hb66)
                  clear hb6W hb6 hb66 hbl
                  go_cut [9, 10] from 36 to 64 (fun p q W => PtAt W6 qx qy qz qu true p q W)
                  case first =>
                    go_region_held3 (fun w' => Below W6.heap.size W6 w' ∧ (w'.cell? ⟨w6.heap.size, 0, none⟩ = some (.int .i64 px) ∧ w'.cell? ⟨w6.heap.size, 1, none⟩ = some (.int .i64 py) ∧ w'.cell? ⟨w6.heap.size, 2, none⟩ = some (.int .i64 pz) ∧ w'.cell? ⟨w6.heap.size, 3, none⟩ = some (.int .i64 pu))) (exact keep4 hp (by go_grown)) (first | (go_at_call 46; (with_reducible refine (QV.out _).mono ?_); rintro e wa ⟨rfl, hba⟩; have hbba := below_on (w := W6) (by go_grown) hba; have hsa : W6.heap.size ≤ wa.heap.size := hbba.size; have hza := hba.size; (try simp at hza); (first | (with_reducible have n6 := new4 hba) | (with_reducible have n6 := new4d hba) | (with_reducible have n6 := new4n hba) | skip); (try obtain ⟨⟨n60, n61, n62, n63, n64⟩, m6⟩ := id n6)) | (go_at_call 44; (with_reducible refine (QW.out _).mono ?_); rintro e wb ⟨rfl, hbb⟩; have hbbb := below_on (w := W6) (by go_grown) hbb; have hsb : W6.heap.size ≤ wb.heap.size := hbbb.size; have hzb := hbb.size; (try simp at hzb); (first | (with_reducible have n7 := new4 hbb) | (with_reducible have n7 := new4d hbb) | (with_reducible have n7 := new4n hbb) | (with_reducible have n7 := old4 n6 hbb) | (with_reducible have n7 := old4d n6 hbb) | (with_reducible have n7 := old4n n6 hbb) | skip); (try obtain ⟨⟨n70, n71, n72, n73, n74⟩, m7⟩ := id n7)))
                    all_goals
                      go_wp2_with fail
                      go_meet
                      first | (refine ⟨_, rfl, rfl, ?_⟩; first | (with_reducible exact pt_new hbbb) | (with_reducible exact pt_new (below_drew hbbb)) | (with_reducible exact pt_new (below_drewN hbbb)) | ((with_reducible refine pt_box hbbb n7 ?_); omega))
                  case rest =>
                    obtain ⟨t, rfl, rfl, hq, _, ht, hBc⟩ := hcut
                    have hp2 := c4_on hp hBc
                    have hB7 := below_on HB6.out hBc
                    have g1 := c5_on hx5 hB7
                    have HB7 := Lib.hid hB7
                    obtain ⟨Wc, hWc⟩ : ∃ W, W = wc := ⟨_, rfl⟩
                    clear hBc hB7 hp hw1 hw2
                    subst hWc
                    go_wp2_with fail
                    go_region_with (fail)
                    all_goals
                      go_wp2
                      go_roundw
                      case rel => exact ⟨j + 1, by go_num, by omega, by simp, by first | exact HB7.out | exact below_drew HB7.out | exact below_drewN HB7.out⟩
                      case measure => simp [intOf]; omega
              · have hj' : ¬ (j : Int) < 4 := by omega
                obtain rfl : j = 4 := by omega
                have g1 := c5_on hx5 hbl
                have HR6 := Lib.hid (reads_on HR5.out hbl)
                have HBL := Lib.hid hbl
                obtain ⟨Wl, hWl⟩ : ∃ W, W = wr := ⟨_, rfl⟩
                clear hbl
                subst hWl
                go_wp2_with fail
                go_region_held3 (fun w' => Below Wl.heap.size Wl w' ∧ (w'.cell? ⟨w1.heap.size, 0, none⟩ = some (.int .i64 a) ∧ w'.cell? ⟨w1.heap.size, 1, none⟩ = some (.int .i64 b) ∧ w'.cell? ⟨w1.heap.size, 2, none⟩ = some (.int .i64 c) ∧ w'.cell? ⟨w1.heap.size, 3, none⟩ = some (.int .i64 d) ∧ w'.cell? ⟨w1.heap.size, 4, none⟩ = some (.int .i64 m))) (exact keep5 g1 (by go_grown)) (first | (go_at_call 67; refine (pbHas_t _ _ L true _ (reads_on HR6.out (by go_grown)) HH.out hlen).mono ?_; rintro e w' ⟨rfl, rfl⟩) | (go_at_call 52; (with_reducible refine (QCF.out _).mono ?_); rintro e w7 ⟨rfl, hb7⟩; have hbb7 := below_on (w := Wl) (by go_grown) hb7; have hs7 : Wl.heap.size ≤ w7.heap.size := hbb7.size))
                all_goals
                  go_wp2
                  go_roundw
                  case rel => exact ⟨k + 1, by go_num, by omega, below_on HBL.out (by go_grown)⟩
                  case measure => simp [intOf]; omega
        · have hk' : ¬ (k : Int) < 4 := by omega
          have hno := HNO.out
          have g1 := c5_on hx5 hbl
          have hl4 : (L.length : Int) ≤ 4 := by omega
          obtain ⟨spl, capl, hv0, _⟩ := HR5.out
          have HBL := Lib.hid hbl
          obtain ⟨Wl, hWl⟩ : ∃ W, W = wr := ⟨_, rfl⟩
          clear hbl
          subst hWl
          subst hv0
          obtain ⟨x0, x1, x2, x3, x4, x5⟩ := id g1
          by_cases hL0 : L.length = 0
          · have hG0 := hno.1 hL0
            subst hG0
            have hb0 : ((L.length : Int) == 0) = true := by simpa using hL0
            have hb1 : (L.length == 0) = true := by simpa using hL0
            clear hno hL0
            go_wp2_with fail
            refine (HCT.out _).mono ?_
            rintro e w6 ⟨rfl, hb6⟩
            go_wp2
            go_ret
            exact ⟨rfl, below_on hw0 (below_on hbW5 (below_on HBL.out hb6))⟩
          · have hG0 : ¬ G = 0 := fun h => hL0 (hno.2 h)
            have hb0 : ((L.length : Int) == 0) = false := by simpa using hL0
            have hb1 : (L.length == 0) = false := by simpa using hL0
            have hb2 : (G == 0) = false := by simpa using hG0
            clear hno hL0 hG0
            go_wp2_with fail
            refine (HCT.out _).mono ?_
            rintro e w6 ⟨rfl, hb6⟩
            go_wp2
            go_ret
            exact ⟨rfl, below_on hw0 (below_on hbW5 (below_on HBL.out hb6))⟩
    · have htf : tvB a b c d m = false := by simpa using htv
      have T1 := Lib.hid htf
      clear htv htf
      go_wp2_with fail
      refine (TermValid_is _ _ _ _ _ false _ T1.out).mono ?_
      rintro e W5 ⟨rfl, hw5⟩
      have hb45 : Below w4.heap.size w4 W5 := by subst hw5; go_grown
      clear hw5 x0 x1 x2 x3 x4 x5
      have hbW5 := below_on hb14 hb45
      obtain ⟨x0, x1, x2, x3, x4, x5⟩ := c5_on hx hbW5
      go_wp2_with fail
      refine (HS.out _).mono ?_
      rintro e w6 ⟨v2, rfl, ho, hb6⟩
      have HR1 := Lib.hid (own_reads ho)
      clear ho
      go_wp2_with fail
      refine (pbInts_same _ _ L _ (reads_on HR4.out (below_on hb45 hb6)) HR1.out hlen).mono ?_
      rintro e w7 ⟨rfl, hb7⟩
      go_wp2
      go_ret
      exact ⟨rfl, below_on hw0 (below_on hbW5 (below_on hb6 hb7))⟩
  · have hn' : (1048576 : Int) < (n : Int) := by omega
    go_enter Try.func16, Try.ntmps16
    go_wp2
    go_ret
    exact ⟨rfl, Below.refl _ _⟩

end Go.Proofs.Ythphlkfofbdncaa
