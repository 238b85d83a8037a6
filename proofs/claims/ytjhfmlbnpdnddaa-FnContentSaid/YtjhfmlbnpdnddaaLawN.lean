/- The walk of the law on the content of a term. -/
import Derived.Test.YtjhfmlbnpdnddaaDraw7
import Derived.Test.YtjhfmlbnpdnddaaCont2
import Derived.BigGuardPart
namespace Go.Proofs.Ytjhfmlbnpdnddaa
open Go.RowKit

theorem cont_dvd (a b c d : Int) : cont a b c d ∣ a ∧ cont a b c d ∣ b ∧ cont a b c d ∣ c ∧ cont a b c d ∣ d := by
  unfold cont
  have g : ∀ x y : Int, ((Int.gcd x y : Nat) : Int) ∣ x ∧ ((Int.gcd x y : Nat) : Int) ∣ y := fun x y => ⟨Int.gcd_dvd_left .., Int.gcd_dvd_right ..⟩
  have h3 := g ((Int.gcd ((Int.gcd ((Int.gcd 0 a : Nat) : Int) b : Nat) : Int) c : Nat) : Int) d
  have h2 := g ((Int.gcd ((Int.gcd 0 a : Nat) : Int) b : Nat) : Int) c
  have h1 := g ((Int.gcd 0 a : Nat) : Int) b
  have h0 := g 0 a
  exact ⟨Int.dvd_trans h3.1 (Int.dvd_trans h2.1 (Int.dvd_trans h1.1 h0.2)), Int.dvd_trans h3.1 (Int.dvd_trans h2.1 h1.2), Int.dvd_trans h3.1 h2.2, h3.2⟩

theorem dvd_cont {a b c d m : Int} (ha : m ∣ a) (hb : m ∣ b) (hc : m ∣ c) (hd : m ∣ d) : m ∣ cont a b c d := by
  unfold cont
  exact Int.dvd_coe_gcd (Int.dvd_coe_gcd (Int.dvd_coe_gcd (Int.dvd_coe_gcd (Int.dvd_zero m) ha) hb) hc) hd

theorem tmod_zero {x m : Int} (h : m ∣ x) : x.tmod m = 0 := Int.tmod_eq_zero_of_dvd h

def ModR (R : Int) (W : World) (v : Value) (Wl : World) : Prop := ∃ M : Int, v = .int .i64 M ∧ R < M ∧ M ≤ 101 ∧ Below W.heap.size W Wl

set_option maxHeartbeats 1000000 in
theorem content_walk (sp : Option Addr) (n cap : Nat) (w : World) (h : Code w sp n cap) :
    Calls Try.prog 4 #[.slice sp n cap] w fun e w' => e = .returned (.bool true) ∧ Below w.heap.size w w' := by
  have hc1 := h.1
  have hc2 := h.2.1
  have H := Lib.hid h
  clear h
  by_cases hn : n ≤ 1048576
  · have hn' : ¬ (1048576 : Int) < (n : Int) := by omega
    go_enter Try.func4, Try.ntmps4
    go_wp2_with fail
    refine (DrawContentOf_t sp n cap w H.out).mono ?_
    rintro e w1 ⟨a, b, c, d, m, rfl, hb1⟩
    have hbs := hb1.size
    go_wp2_with fail
    generalize hW : w1.alloc (.cells #[.int .i64 a, .int .i64 b, .int .i64 c, .int .i64 d, .int .i64 m] 24) = W
    have hx : C5 W w1.heap.size a b c d m := by subst hW; exact (by refine ⟨?_, ?_, ?_, ?_, ?_, ?_⟩ <;> first | (simp [go_sem]; done) | (simp; omega))
    have hw0 : Below w.heap.size w W := by subst hW; go_grown
    clear hW
    obtain ⟨x0, x1, x2, x3, x4, x5⟩ := id hx
    by_cases htv : tvB a b c d m = true
    · have HI := Lib.hid fun W => ContentOf_ok a b c d m W htv
      have HS := Lib.hid fun W => specContentOf_ok a b c d m W htv
      have hle : cont a b c d ≤ 100 := by
        obtain ⟨qa, qb, qc, qd, _⟩ := tv_bd htv
        unfold cont
        exact (gcd_le (gcd_le (gcd_le (gcd_le ⟨by omega, by omega⟩ qa) qb) qc) qd).2
      obtain ⟨R, hR⟩ : ∃ R, cont a b c d = R := ⟨_, rfl⟩
      have hdv := cont_dvd a b c d
      have hvd := fun (k : Int) => @dvd_cont a b c d k
      have hR0 : 0 ≤ R := by rw [← hR]; exact Int.natCast_nonneg _
      rw [hR] at HI HS hdv hvd hle
      have HV := Lib.hid hvd
      clear hR hvd htv
      by_cases hR1 : R = 0
      · subst hR1
        obtain ⟨ha, hb, hc, hd⟩ := hdv
        obtain rfl : a = 0 := by simpa using ha
        obtain rfl : b = 0 := by simpa using hb
        obtain rfl : c = 0 := by simpa using hc
        obtain rfl : d = 0 := by simpa using hd
        clear ha hb hc hd HV hle
        have s0 : sel 0 0 0 0 0 0 = 0 := rfl
        have s1 : sel 0 0 0 0 1 0 = 0 := rfl
        have s2 : sel 0 0 0 0 2 0 = 0 := rfl
        have s3 : sel 0 0 0 0 3 0 = 0 := rfl
        refine (HI.out _).mono ?_
        rintro e w2 ⟨rfl, hb2⟩
        obtain ⟨x0, x1, x2, x3, x4, x5⟩ := c5_on hx hb2
        go_wp2_with fail
        refine (HS.out _).mono ?_
        rintro e w3 ⟨rfl, hb3⟩
        have hbb := below_on hb2 hb3
        have hss := hbb.size
        obtain ⟨x0, x1, x2, x3, x4, x5⟩ := c5_on hx hbb
        go_wp2_with fail
        refine wp_loop_rounds 5 ?_
        rw [rounds_succ]
        go_wp2_with fail
        refine (CoefOf_any _ _ _ _ _ _ _).mono ?_
        rintro e u0 ⟨rfl, hv0⟩
        have hbb := below_on (w := W) hbb hv0
        have hss := hbb.size
        obtain ⟨x0, x1, x2, x3, x4, x5⟩ := c5_on hx hbb
        go_wp2_with fail
        rw [rounds_succ]
        go_wp2_with fail
        refine (CoefOf_any _ _ _ _ _ _ _).mono ?_
        rintro e u1 ⟨rfl, hv1⟩
        have hbb := below_on (w := W) hbb hv1
        have hss := hbb.size
        obtain ⟨x0, x1, x2, x3, x4, x5⟩ := c5_on hx hbb
        go_wp2_with fail
        rw [rounds_succ]
        go_wp2_with fail
        refine (CoefOf_any _ _ _ _ _ _ _).mono ?_
        rintro e u2 ⟨rfl, hv2⟩
        have hbb := below_on (w := W) hbb hv2
        have hss := hbb.size
        obtain ⟨x0, x1, x2, x3, x4, x5⟩ := c5_on hx hbb
        go_wp2_with fail
        rw [rounds_succ]
        go_wp2_with fail
        refine (CoefOf_any _ _ _ _ _ _ _).mono ?_
        rintro e u3 ⟨rfl, hv3⟩
        have hbb := below_on (w := W) hbb hv3
        have hss := hbb.size
        obtain ⟨x0, x1, x2, x3, x4, x5⟩ := c5_on hx hbb
        go_wp2_with fail
        rw [rounds_succ]
        go_wp2_with fail
        refine wp_loop_rounds 1 ?_
        rw [rounds_succ]
        go_wp2_with fail
        go_ret
        have hf := below_on hw0 hbb
        exact ⟨rfl, hf⟩
      · have hRp : 0 < R := by omega
        obtain ⟨da, db, dc, dd⟩ := hdv
        have ta := tmod_zero da
        have tb := tmod_zero db
        have tc := tmod_zero dc
        have td := tmod_zero dd
        have s0 : sel a b c d 0 0 = a := rfl
        have s1 : sel a b c d 1 0 = b := rfl
        have s2 : sel a b c d 2 0 = c := rfl
        have s3 : sel a b c d 3 0 = d := rfl
        refine (HI.out _).mono ?_
        rintro e w2 ⟨rfl, hb2⟩
        obtain ⟨x0, x1, x2, x3, x4, x5⟩ := c5_on hx hb2
        go_wp2_with fail
        refine (HS.out _).mono ?_
        rintro e w3 ⟨rfl, hb3⟩
        have hbb := below_on hb2 hb3
        have hss := hbb.size
        obtain ⟨x0, x1, x2, x3, x4, x5⟩ := c5_on hx hbb
        go_wp2_with fail
        refine wp_loop_rounds 5 ?_
        rw [rounds_succ]
        go_wp2_with fail
        refine (CoefOf_any _ _ _ _ _ _ _).mono ?_
        rintro e u0 ⟨rfl, hv0⟩
        have hbb := below_on (w := W) hbb hv0
        have hss := hbb.size
        obtain ⟨x0, x1, x2, x3, x4, x5⟩ := c5_on hx hbb
        go_wp2_with fail
        rw [rounds_succ]
        go_wp2_with fail
        refine (CoefOf_any _ _ _ _ _ _ _).mono ?_
        rintro e u1 ⟨rfl, hv1⟩
        have hbb := below_on (w := W) hbb hv1
        have hss := hbb.size
        obtain ⟨x0, x1, x2, x3, x4, x5⟩ := c5_on hx hbb
        go_wp2_with fail
        rw [rounds_succ]
        go_wp2_with fail
        refine (CoefOf_any _ _ _ _ _ _ _).mono ?_
        rintro e u2 ⟨rfl, hv2⟩
        have hbb := below_on (w := W) hbb hv2
        have hss := hbb.size
        obtain ⟨x0, x1, x2, x3, x4, x5⟩ := c5_on hx hbb
        go_wp2_with fail
        rw [rounds_succ]
        go_wp2_with fail
        refine (CoefOf_any _ _ _ _ _ _ _).mono ?_
        rintro e u3 ⟨rfl, hv3⟩
        have hbb := below_on (w := W) hbb hv3
        have hss := hbb.size
        obtain ⟨x0, x1, x2, x3, x4, x5⟩ := c5_on hx hbb
        go_wp2_with fail
        rw [rounds_succ]
        go_wp2_with fail
        go_loopw [7] (fun mv Wl => ModR R W mv Wl) (fun mv _ => (200 - intOf mv).toNat)
        case atStart => exact ⟨R + 1, rfl, by omega, by omega, hbb⟩
        case round =>
          obtain ⟨M, rfl, m0, m1, hbb⟩ := hrel
          have hss := hbb.size
          obtain ⟨x0, x1, x2, x3, x4, x5⟩ := c5_on hx hbb
          by_cases hM : M ≤ 12
          · have hMp : 0 < M := by omega
            by_cases ha : a.tmod M = 0
            rotate_left
            · have ea : (a.tmod M == 0) = false := by simpa using ha
              clear ha
              go_wp2_with fail
              refine wp_loop_rounds 5 ?_
              rw [rounds_succ]
              go_wp2_with fail
              refine (CoefOf_any _ _ _ _ _ _ _).mono ?_
              rintro e y0 ⟨rfl, hv0⟩
              have hbb := below_on (w := W) hbb hv0
              have hss := hbb.size
              obtain ⟨x0, x1, x2, x3, x4, x5⟩ := c5_on hx hbb
              go_wp2_with fail
              rw [rounds_succ]
              go_wp2_with fail
              rw [rounds_succ]
              go_wp2_with fail
              rw [rounds_succ]
              go_wp2_with fail
              rw [rounds_succ]
              go_wp2_with fail
              go_roundw
              case rel => exact ⟨M + 1, rfl, by omega, by omega, hbb⟩
              case measure => simp [intOf]; omega
            by_cases hb : b.tmod M = 0
            rotate_left
            · have eb : (b.tmod M == 0) = false := by simpa using hb
              clear hb
              go_wp2_with fail
              refine wp_loop_rounds 5 ?_
              rw [rounds_succ]
              go_wp2_with fail
              refine (CoefOf_any _ _ _ _ _ _ _).mono ?_
              rintro e y0 ⟨rfl, hv0⟩
              have hbb := below_on (w := W) hbb hv0
              have hss := hbb.size
              obtain ⟨x0, x1, x2, x3, x4, x5⟩ := c5_on hx hbb
              go_wp2_with fail
              rw [rounds_succ]
              go_wp2_with fail
              refine (CoefOf_any _ _ _ _ _ _ _).mono ?_
              rintro e y1 ⟨rfl, hv1⟩
              have hbb := below_on (w := W) hbb hv1
              have hss := hbb.size
              obtain ⟨x0, x1, x2, x3, x4, x5⟩ := c5_on hx hbb
              go_wp2_with fail
              rw [rounds_succ]
              go_wp2_with fail
              rw [rounds_succ]
              go_wp2_with fail
              rw [rounds_succ]
              go_wp2_with fail
              go_roundw
              case rel => exact ⟨M + 1, rfl, by omega, by omega, hbb⟩
              case measure => simp [intOf]; omega
            by_cases hc : c.tmod M = 0
            rotate_left
            · have ec : (c.tmod M == 0) = false := by simpa using hc
              clear hc
              go_wp2_with fail
              refine wp_loop_rounds 5 ?_
              rw [rounds_succ]
              go_wp2_with fail
              refine (CoefOf_any _ _ _ _ _ _ _).mono ?_
              rintro e y0 ⟨rfl, hv0⟩
              have hbb := below_on (w := W) hbb hv0
              have hss := hbb.size
              obtain ⟨x0, x1, x2, x3, x4, x5⟩ := c5_on hx hbb
              go_wp2_with fail
              rw [rounds_succ]
              go_wp2_with fail
              refine (CoefOf_any _ _ _ _ _ _ _).mono ?_
              rintro e y1 ⟨rfl, hv1⟩
              have hbb := below_on (w := W) hbb hv1
              have hss := hbb.size
              obtain ⟨x0, x1, x2, x3, x4, x5⟩ := c5_on hx hbb
              go_wp2_with fail
              rw [rounds_succ]
              go_wp2_with fail
              refine (CoefOf_any _ _ _ _ _ _ _).mono ?_
              rintro e y2 ⟨rfl, hv2⟩
              have hbb := below_on (w := W) hbb hv2
              have hss := hbb.size
              obtain ⟨x0, x1, x2, x3, x4, x5⟩ := c5_on hx hbb
              go_wp2_with fail
              rw [rounds_succ]
              go_wp2_with fail
              rw [rounds_succ]
              go_wp2_with fail
              go_roundw
              case rel => exact ⟨M + 1, rfl, by omega, by omega, hbb⟩
              case measure => simp [intOf]; omega
            by_cases hd : d.tmod M = 0
            rotate_left
            · have ed : (d.tmod M == 0) = false := by simpa using hd
              clear hd
              go_wp2_with fail
              refine wp_loop_rounds 5 ?_
              rw [rounds_succ]
              go_wp2_with fail
              refine (CoefOf_any _ _ _ _ _ _ _).mono ?_
              rintro e y0 ⟨rfl, hv0⟩
              have hbb := below_on (w := W) hbb hv0
              have hss := hbb.size
              obtain ⟨x0, x1, x2, x3, x4, x5⟩ := c5_on hx hbb
              go_wp2_with fail
              rw [rounds_succ]
              go_wp2_with fail
              refine (CoefOf_any _ _ _ _ _ _ _).mono ?_
              rintro e y1 ⟨rfl, hv1⟩
              have hbb := below_on (w := W) hbb hv1
              have hss := hbb.size
              obtain ⟨x0, x1, x2, x3, x4, x5⟩ := c5_on hx hbb
              go_wp2_with fail
              rw [rounds_succ]
              go_wp2_with fail
              refine (CoefOf_any _ _ _ _ _ _ _).mono ?_
              rintro e y2 ⟨rfl, hv2⟩
              have hbb := below_on (w := W) hbb hv2
              have hss := hbb.size
              obtain ⟨x0, x1, x2, x3, x4, x5⟩ := c5_on hx hbb
              go_wp2_with fail
              rw [rounds_succ]
              go_wp2_with fail
              refine (CoefOf_any _ _ _ _ _ _ _).mono ?_
              rintro e y3 ⟨rfl, hv3⟩
              have hbb := below_on (w := W) hbb hv3
              have hss := hbb.size
              obtain ⟨x0, x1, x2, x3, x4, x5⟩ := c5_on hx hbb
              go_wp2_with fail
              rw [rounds_succ]
              go_wp2_with fail
              go_roundw
              case rel => exact ⟨M + 1, rfl, by omega, by omega, hbb⟩
              case measure => simp [intOf]; omega
            exfalso
            have hMR := HV.out M (Int.dvd_of_tmod_eq_zero ha) (Int.dvd_of_tmod_eq_zero hb) (Int.dvd_of_tmod_eq_zero hc) (Int.dvd_of_tmod_eq_zero hd)
            have := Int.le_of_dvd hRp hMR
            omega
          · go_wp2_with fail
            go_ret
            have hf := below_on hw0 hbb
            exact ⟨rfl, hf⟩
    · have hv : tvB a b c d m = false := by simpa using htv
      have HI := Lib.hid fun W => ContentOf_bad a b c d m W hv
      have HS := Lib.hid fun W => specContentOf_bad a b c d m W hv
      have HT := Lib.hid fun W => TermValid_is a b c d m false W hv
      clear htv hv
      refine (HI.out _).mono ?_
      rintro e w2 ⟨rfl, hb2⟩
      obtain ⟨x0, x1, x2, x3, x4, x5⟩ := c5_on hx hb2
      go_wp2_with fail
      refine (HS.out _).mono ?_
      rintro e w3 ⟨rfl, hb3⟩
      have hbb := below_on hb2 hb3
      obtain ⟨x0, x1, x2, x3, x4, x5⟩ := c5_on hx hbb
      go_wp2_with fail
      refine (HS.out _).mono ?_
      rintro e w4 ⟨rfl, hb4⟩
      have hbb4 := below_on hbb hb4
      have hss := hbb4.size
      obtain ⟨x0, x1, x2, x3, x4, x5⟩ := c5_on hx hbb4
      go_wp2_with fail
      refine (HT.out _).mono ?_
      rintro e w' ⟨rfl, rfl⟩
      go_wp2
      go_ret
      have hf := below_on hw0 hbb4
      have hfs := hf.size
      exact ⟨rfl, by go_grown⟩
  · have hn' : (1048576 : Int) < (n : Int) := by omega
    go_enter Try.func4, Try.ntmps4
    go_wp2
    go_ret
    exact ⟨rfl, Below.refl _ _⟩

end Go.Proofs.Ytjhfmlbnpdnddaa
