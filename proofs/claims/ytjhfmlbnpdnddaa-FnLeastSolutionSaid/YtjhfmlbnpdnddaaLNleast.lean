/- The walk of the law on first solutions. -/
import Derived.Test.YtjhfmlbnpdnddaaLNsolv
namespace Go.Proofs.Ytjhfmlbnpdnddaa
open Go.RowKit

def UvR (w : World) (i : Value) (wr : World) : Prop := ∃ k : Nat, i = .int .i64 k ∧ k ≤ 60 ∧ w = wr

/-- Which bound a drawn equation breaks. -/
theorem sm_bad {a b c : Int} (h : smB a b c = false) : decide (a ≤ 100) = false ∨ (decide (a ≤ 100) = true ∧ decide (-100 ≤ a) = false) ∨ (decide (a ≤ 100) = true ∧ decide (-100 ≤ a) = true ∧ decide (b ≤ 100) = false) ∨
    (decide (a ≤ 100) = true ∧ decide (-100 ≤ a) = true ∧ decide (b ≤ 100) = true ∧ decide (-100 ≤ b) = false) ∨ (decide (a ≤ 100) = true ∧ decide (-100 ≤ a) = true ∧ decide (b ≤ 100) = true ∧ decide (-100 ≤ b) = true ∧ decide (c ≤ 10000) = false) ∨
    (decide (a ≤ 100) = true ∧ decide (-100 ≤ a) = true ∧ decide (b ≤ 100) = true ∧ decide (-100 ≤ b) = true ∧ decide (c ≤ 10000) = true ∧ decide (-10000 ≤ c) = false) := by
  have h' : ¬ ((-100 ≤ a ∧ a ≤ 100) ∧ (-100 ≤ b ∧ b ≤ 100) ∧ (-10000 ≤ c ∧ c ≤ 10000)) := by
    intro hx
    have : smB a b c = true := by
      simp only [smB, wlB, Bool.and_eq_true, decide_eq_true_eq]
      omega
    rw [h] at this
    exact Bool.noConfusion this
  simp only [decide_eq_true_eq, decide_eq_false_iff_not]
  omega

/-- What a pair of small numbers may be, beside the first solution. -/
theorem least_pair {a b c x y : Int} {ok : Bool} (hl : ok = true → IsLeast a b c x y) (hs : ok = false → ¬ Solves a b c) (u v : Nat) :
    (a * (u : Int) + b * (v : Int) == c) = false ∨ ((a * (u : Int) + b * (v : Int) == c) = true ∧ ok = true ∧ decide ((u : Int) < x) = false ∧ ((u : Int) == x) = false) ∨
      ((a * (u : Int) + b * (v : Int) == c) = true ∧ ok = true ∧ decide ((u : Int) < x) = false ∧ ((u : Int) == x) = true ∧ decide ((v : Int) < y) = false) := by
  by_cases h : a * (u : Int) + b * (v : Int) = c
  · cases ok
    · exact absurd ⟨u, v, by omega, by omega, h⟩ (hs rfl)
    · have := (hl rfl).2.2.2 u v (by omega) (by omega) h
      simp only [beq_iff_eq, beq_eq_false_iff_ne, ne_eq, decide_eq_false_iff_not]
      rcases this with h1 | ⟨h1, h2⟩
      · exact .inr (.inl ⟨h, trivial, by omega, by omega⟩)
      · exact .inr (.inr ⟨h, trivial, by omega, by omega, by omega⟩)
  · exact .inl (by simpa using h)

set_option maxRecDepth 100000 in
set_option maxHeartbeats 4000000 in
theorem leastSolution_walk (sp : Option Addr) (n cap : Nat) (w : World) (h : Code w sp n cap) :
    Calls Try.prog 11 #[.slice sp n cap] w fun e w' => e = .returned (.bool true) ∧ Below w.heap.size w w' := by
  have hc1 := h.1
  have hc2 := h.2.1
  have H := Lib.hid h
  clear h
  by_cases hn : n ≤ 1048576
  · have hn' : ¬ (1048576 : Int) < (n : Int) := by omega
    go_enter Try.func11, Try.ntmps11
    go_wp2_with fail
    refine (DrawLeast_t sp n cap w H.out).mono ?_
    rintro e w1 ⟨a, b, c, rfl, ⟨a0, a1⟩, ⟨b0, b1⟩, ⟨c0, c1⟩, hb1⟩
    have HI := Lib.hid fun W => LeastSolution_any a b c W
    have HS := Lib.hid fun W => specLeast_any a b c W
    rcases hv : smB a b c with _ | _
    · rw [lsT_no hv] at HI HS
      have hbad := sm_bad hv
      unfold T3 at HI HS
      dsimp only at HI HS
      clear hv
      go_wp2_with fail
      refine (HI.out _).mono ?_
      rintro e w2 ⟨rfl, hb2⟩
      go_wp2_with fail
      refine (HS.out _).mono ?_
      rintro e w3 ⟨rfl, hb3⟩
      have HB3 := Lib.hid (below_on hb1 (below_on hb2 hb3))
      go_wp2_with fail
      go_loopw [12] (fun i wr => UvR w3 i wr) (fun i _ => 60 - (intOf i).toNat)
      case atStart => exact ⟨0, rfl, by omega, rfl⟩
      case round =>
        obtain ⟨u, rfl, hu, rfl⟩ := hrel
        by_cases hue : u = 60
        · subst hue
          go_wp2
          go_returns
          exact ⟨rfl, HB3.out⟩
        · have hul : u < 60 := by omega
          clear hue
          go_wp2_with fail
          go_loopw [13] (fun i wr => UvR w3 i wr) (fun i _ => 60 - (intOf i).toNat)
          case atStart => exact ⟨0, rfl, by omega, rfl⟩
          case round =>
            obtain ⟨v, rfl, hv, rfl⟩ := hrel
            by_cases hve : v = 60
            · subst hve
              go_wp2
              go_roundw
              case rel => exact ⟨u + 1, by go_num, by omega, rfl⟩
              case measure => simp [intOf]; omega
            · have hvl : v < 60 := by omega
              obtain ⟨p, hp, p0, p1⟩ := mul_bd3 (a := a) (k := (u : Int)) (A := 101) (K := 60) (by omega) (by omega) (by omega)
              obtain ⟨q, hq, q0, q1⟩ := mul_bd3 (a := b) (k := (v : Int)) (A := 101) (K := 60) (by omega) (by omega) (by omega)
              have hwp : IntKind.i64.wrap p = p := by rw [IntKind.wrap_i64]; omega
              have hwq : IntKind.i64.wrap q = q := by rw [IntKind.wrap_i64]; omega
              obtain ⟨z, hz⟩ : ∃ z : Bool, (p + q == c) = z := ⟨_, rfl⟩
              clear hve
              rcases z with _ | _
              · go_wp2
                go_roundw
                case rel => exact ⟨v + 1, by go_num, by omega, rfl⟩
                case measure => simp [intOf]; omega
              · rcases hbad with d1 | ⟨d1, d2⟩ | ⟨d1, d2, d3⟩ | ⟨d1, d2, d3, d4⟩ | ⟨d1, d2, d3, d4, d5⟩ | ⟨d1, d2, d3, d4, d5, d6⟩
                all_goals
                  go_wp2
                  go_roundw
                  case rel => exact ⟨v + 1, by go_num, by omega, rfl⟩
                  case measure => simp [intOf]; omega
    · obtain ⟨⟨a2, a3⟩, ⟨b2, b3⟩, ⟨c2, c3⟩⟩ := sm_yes hv
      rw [lsT_yes hv] at HI HS
      have hls : ∃ x y : Int, ∃ ok : Bool, lsV a b c = (x, y, ok) ∧ (ok = true → IsLeast a b c x y) ∧ (ok = false → ¬ Solves a b c) := by
        by_cases hs : Solves a b c
        · obtain ⟨x, y, hl⟩ := isLeast_exists hs
          exact ⟨x, y, true, lsV_yes hl, fun _ => hl, fun h => Bool.noConfusion h⟩
        · exact ⟨0, 0, false, lsV_no hs, fun h => Bool.noConfusion h, fun _ => hs⟩
      obtain ⟨x, y, ok, hlv, hl, hs⟩ := hls
      rw [hlv] at HI HS
      have HP := Lib.hid (least_pair hl hs)
      have hfin : ok = false ∨ (ok = true ∧ 0 ≤ x ∧ x ≤ 20000 ∧ 0 ≤ y ∧ ∃ p q : Int, a * x = p ∧ b * y = q ∧ -2000000 ≤ p ∧ p ≤ 2000000 ∧ p + q = c) := by
        cases ok
        · exact .inl rfl
        · have hl' := hl rfl
          have hx := isLeast_near ⟨a2, a3⟩ ⟨b2, b3⟩ ⟨c2, c3⟩ hl'
          have := mul_bd (a := a) (x := x) (A := 100) (X := 20000) a2 a3 hl'.1 hx (by omega)
          exact .inr ⟨rfl, hl'.1, hx, hl'.2.1, _, _, rfl, rfl, by omega, by omega, hl'.2.2.1⟩
      have HF := Lib.hid hfin
      have f1 : decide (a ≤ 100) = true := by simpa using a3
      have f2 : decide (-100 ≤ a) = true := by simpa using a2
      have f3 : decide (b ≤ 100) = true := by simpa using b3
      have f4 : decide (-100 ≤ b) = true := by simpa using b2
      have f5 : decide (c ≤ 10000) = true := by simpa using c3
      have f6 : decide (-10000 ≤ c) = true := by simpa using c2
      unfold T3 at HI HS
      dsimp only at HI HS
      clear hlv hl hs hfin hv
      go_wp2_with fail
      refine (HI.out _).mono ?_
      rintro e w2 ⟨rfl, hb2⟩
      go_wp2_with fail
      refine (HS.out _).mono ?_
      rintro e w3 ⟨rfl, hb3⟩
      have HB3 := Lib.hid (below_on hb1 (below_on hb2 hb3))
      go_wp2_with fail
      go_loopw [12] (fun i wr => UvR w3 i wr) (fun i _ => 60 - (intOf i).toNat)
      case atStart => exact ⟨0, rfl, by omega, rfl⟩
      case round =>
        obtain ⟨u, rfl, hu, rfl⟩ := hrel
        by_cases hue : u = 60
        · subst hue
          rcases HF.out with rfl | ⟨rfl, x0, x1, y0, p, q, hp, hq, p0, p1, hpq⟩
          · go_wp2
            go_returns
            exact ⟨rfl, HB3.out⟩
          · have hwp : IntKind.i64.wrap p = p := by rw [IntKind.wrap_i64]; omega
            have hwq : IntKind.i64.wrap q = q := by rw [IntKind.wrap_i64]; omega
            have hws : IntKind.i64.wrap (p + q) = c := by rw [IntKind.wrap_i64]; omega
            have g1 : decide (0 ≤ x) = true := by simpa using x0
            have g2 : decide (0 ≤ y) = true := by simpa using y0
            go_wp2
            go_returns
            exact ⟨rfl, HB3.out⟩
        · have hul : u < 60 := by omega
          clear hue
          go_wp2_with fail
          go_loopw [13] (fun i wr => UvR w3 i wr) (fun i _ => 60 - (intOf i).toNat)
          case atStart => exact ⟨0, rfl, by omega, rfl⟩
          case round =>
            obtain ⟨v, rfl, hv, rfl⟩ := hrel
            by_cases hve : v = 60
            · subst hve
              go_wp2
              go_roundw
              case rel => exact ⟨u + 1, by go_num, by omega, rfl⟩
              case measure => simp [intOf]; omega
            · have hvl : v < 60 := by omega
              have hcase := HP.out u v
              obtain ⟨p, hp, p0, p1⟩ := mul_bd3 (a := a) (k := (u : Int)) (A := 101) (K := 60) (by omega) (by omega) (by omega)
              obtain ⟨q, hq, q0, q1⟩ := mul_bd3 (a := b) (k := (v : Int)) (A := 101) (K := 60) (by omega) (by omega) (by omega)
              have hwp : IntKind.i64.wrap p = p := by rw [IntKind.wrap_i64]; omega
              have hwq : IntKind.i64.wrap q = q := by rw [IntKind.wrap_i64]; omega
              rw [hp, hq] at hcase
              clear hve
              rcases hcase with z1 | ⟨z1, rfl, z2, z3⟩ | ⟨z1, rfl, z2, z3, z4⟩
              all_goals
                go_wp2
                go_roundw
                case rel => exact ⟨v + 1, by go_num, by omega, rfl⟩
                case measure => simp [intOf]; omega
  · have hn' : (1048576 : Int) < (n : Int) := by omega
    go_enter Try.func11, Try.ntmps11
    go_wp2
    go_ret
    exact ⟨rfl, Below.refl _ _⟩

end Go.Proofs.Ytjhfmlbnpdnddaa
