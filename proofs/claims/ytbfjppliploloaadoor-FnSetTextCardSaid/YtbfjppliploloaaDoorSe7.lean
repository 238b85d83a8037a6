/- Several texts in one: SeA SeB SeC SeD SeE SeF. -/
import Derived.Test.YtbfjppliploloaaDoorSd7

/- The model's l7Both, UnionSets, MeetSets. -/
namespace Go.Proofs.YtbfjppliploloaaDoor
open Go.RowKit

/-- A store into another block. -/
theorem s2_set {W : World} {b c j : Nat} {x y : ByteArray} {v : Value} (h : S2 W b x y) (hne : c ≠ b) : S2 (W.setCell ⟨c, j, none⟩ v) b x y := by
  obtain ⟨z0, z1, z2, z3⟩ := h
  exact ⟨by simpa [World.setCell] using z0, by rw [World.cell?_setCell_far _ _ _ _ hne]; exact z1, by rw [World.cell?_setCell_far _ _ _ _ hne]; exact z2, fun o => by simpa using z3 o⟩
theorem rowb_set {W : World} {b c j : Nat} {l : List UInt8} {v : Value} (h : RowB W b l) (hne : c ≠ b) : RowB (W.setCell ⟨c, j, none⟩ v) b l :=
  ⟨by simpa [World.setCell] using h.1, fun i x hx => by rw [World.cell?_setCell_far _ _ _ _ hne]; exact h.2 i x hx⟩
/-- The model's choice. -/
def bothB (all x y : Bool) : Bool := (x && y) || (!all && (x || y))

end Go.Proofs.YtbfjppliploloaaDoor

/- UnionSets and MeetSets of the model; its repetitions, its changed bits. -/
namespace Go.Proofs.YtbfjppliploloaaDoor
open Go.RowKit

theorem both_or : bothB false = fun x y => x || y := by
  funext x y
  cases x <;> cases y <;> rfl

theorem both_and : bothB true = fun x y => x && y := by
  funext x y
  cases x <;> cases y <;> rfl

/-- A string again and again. -/
def repL (x : List UInt8) (n : Nat) : List UInt8 := (List.replicate n x).flatten
theorem rep_len (x : List UInt8) (n : Nat) : (repL x n).length = n * x.length := by
  unfold repL
  simp [List.length_flatten]
theorem rep_two (x : List UInt8) (n : Nat) : repL (x ++ x) n = repL x (n + n) := by
  induction n with
  | zero => rfl
  | succ n ih =>
    have e1 : repL (x ++ x) (n + 1) = (x ++ x) ++ repL (x ++ x) n := by unfold repL; rw [List.replicate_succ, List.flatten_cons]
    have e2 : repL x (n + 1 + (n + 1)) = x ++ (x ++ repL x (n + n)) := by
      rw [show n + 1 + (n + 1) = (n + n) + 1 + 1 by omega]
      unfold repL
      rw [List.replicate_succ, List.replicate_succ, List.flatten_cons, List.flatten_cons]
    rw [e1, ih, e2, List.append_assoc]
theorem rep_odd (x : List UInt8) (n : Nat) : x ++ repL (x ++ x) n = repL x (n + n + 1) := by
  rw [rep_two]
  unfold repL
  rw [List.replicate_succ, List.flatten_cons]
theorem rep_zero (n : Nat) : repL [48] n = List.replicate n 48 := by
  unfold repL
  induction n with
  | zero => rfl
  | succ n ih => rw [List.replicate_succ, List.flatten_cons, ih, List.replicate_succ]; rfl

set_option maxHeartbeats 2000000 in
theorem l17Many_any (x0 : List UInt8) (n0 : Nat) (w : World) (hx0 : x0.length ≤ 1000) (hn0 : n0 ≤ 100000) :
    Calls Tryd.prog 34 #[.string (bs x0), .int .i64 n0] w fun e w' => e = .returned (.string (bs (repL x0 n0))) ∧ w = w' := by
  have happ := bs_app
  have hb0 : ({ data := #[] } : ByteArray) = bs [] := rfl
  obtain ⟨T, hT⟩ : ∃ T, repL x0 n0 = T := ⟨_, rfl⟩
  have HTL : Hid (T.length ≤ 100000000) := Lib.hid (by rw [← hT, rep_len]; exact Nat.le_trans (Nat.mul_le_mul hn0 hx0) (by omega))
  have hst : Hid ([] ++ repL x0 n0 = T) := Lib.hid (by rw [← hT]; rfl)
  rw [hT]
  clear hT
  go_enter Tryd.func34, Tryd.ntmps34
  go_wp2
  go_loopw [0, 1, 5] (fun s i o wr => ∃ (X O : List UInt8) (n : Nat), s = .string (bs X) ∧ i = .int .i64 n ∧ o = .string (bs O) ∧ wr = w ∧ n ≤ 100000 ∧ X.length ≤ 1000000000 ∧ O ++ repL X n = T) (fun _ i _ _ => (intOf i).toNat)
  case atStart => exact ⟨x0, [], n0, rfl, rfl, rfl, rfl, hn0, by omega, hst.out⟩
  case round =>
    obtain ⟨X, O, n, rfl, rfl, rfl, rfl, hn, hX, ht⟩ := hrel
    have HT := Lib.hid ht
    have hz1 := bs_size X
    have hz2 := bs_size O
    have hO : O.length ≤ 100000000 := by have := HTL.out; rw [← ht, List.length_append] at this; omega
    obtain ⟨m, hm⟩ : ∃ m, n / 2 = m := ⟨_, rfl⟩
    have hd : (n : Int).tdiv 2 = (m : Int) := by rw [Int.tdiv_eq_ediv_of_nonneg (by omega)]; omega
    have hwm : IntKind.i64.wrap (m : Int) = (m : Int) := by rw [IntKind.wrap_i64]; omega
    have hmn : m ≤ n ∧ (0 < n → m < n) := by omega
    by_cases h0 : 0 < n
    · have g0 : decide ((0 : Int) < (n : Int)) = true := decide_eq_true (by omega)
      have g1 : decide (0 < n) = true := decide_eq_true h0
      have hXT : X.length * n ≤ 100000000 := by
        have := HTL.out
        rw [← ht, List.length_append, rep_len] at this
        rw [Nat.mul_comm]
        omega
      have hXb : X.length ≤ 100000000 := Nat.le_trans (Nat.le_mul_of_pos_right _ h0) hXT
      have hX2 : (X ++ X).length ≤ 1000000000 := by rw [List.length_append]; omega
      obtain ⟨r, hr⟩ : ∃ r, n % 2 = r := ⟨_, rfl⟩
      have ht2 : (n : Int).tmod 2 = (r : Int) := by rw [Int.tmod_eq_emod_of_nonneg (by omega)]; omega
      have HX2 := Lib.hid hX2
      obtain ⟨a, ha⟩ : ∃ a, X.length = a := ⟨_, rfl⟩
      obtain ⟨b, hb⟩ : ∃ a, O.length = a := ⟨_, rfl⟩
      rw [ha] at hz1 hXb
      rw [hb] at hz2 hO
      by_cases hodd : r = 1
      · have e1 : ((r : Int) == 1) = true := by rw [hodd]; rfl
        have HN : Hid ((O ++ X) ++ repL (X ++ X) m = T) := Lib.hid (by rw [List.append_assoc, rep_odd, ← HT.out]; congr 2; omega)
        clear ht hXT hX2 hodd hr hm ha hb
        go_wp2
        go_roundw
        case rel => exact ⟨X ++ X, O ++ X, m, rfl, rfl, rfl, trivial, by omega, HX2.out, HN.out⟩
        case measure => simp [intOf]; omega
      · have e1 : ((r : Int) == 1) = false := by rw [beq_eq_false_iff_ne]; omega
        have HN : Hid (O ++ repL (X ++ X) m = T) := Lib.hid (by rw [rep_two, ← HT.out]; congr 2; omega)
        clear ht hXT hX2 hodd hr hm ha hb
        go_wp2
        go_roundw
        case rel => exact ⟨X ++ X, O, m, rfl, rfl, rfl, trivial, by omega, HX2.out, HN.out⟩
        case measure => simp [intOf]; omega
    · have g0 : decide ((0 : Int) < (n : Int)) = false := decide_eq_false (by omega)
      have g1 : decide (0 < n) = false := decide_eq_false h0
      have hF : Hid (O = T) := Lib.hid (by rw [← ht, show n = 0 by omega]; simp [repL])
      clear ht hd hwm hm
      go_wp2
      go_ret
      exact ⟨by rw [hF.out]; rfl, rfl⟩

end Go.Proofs.YtbfjppliploloaaDoor

/- The model's changed bits and OtherSet; its stretched strings. -/
namespace Go.Proofs.YtbfjppliploloaaDoor
open Go.RowKit

/-- Bytes in a block, none of them frozen. -/
def CB (W : World) (b : Nat) (l : List UInt8) : Prop := b < W.heap.size ∧ (∀ (i : Nat) x, l[i]? = some x → W.cell? ⟨b, i, none⟩ = some (.int .u8 (x.toNat : Int))) ∧ ∀ i, i < l.length → W.frozen? ⟨b, i, none⟩ = false
theorem cb_set {W : World} {b k : Nat} {l : List UInt8} {y : UInt8} {z : Int} (h : CB W b l) (hk : k < l.length) (hz : z = (y.toNat : Int)) : CB (W.setCell ⟨b, k, none⟩ (.int .u8 z)) b (l.set k y) := by
  obtain ⟨h1, h2, h3⟩ := h
  refine ⟨by simpa [World.setCell] using h1, fun i x hx => ?_, fun i hi => ?_⟩
  · by_cases e : i = k
    · subst e
      rw [List.getElem?_set_self hk] at hx
      rw [World.cell?_setCell_same' _ _ _ (by rw [h2 i l[i] (List.getElem?_eq_getElem hk)]; rfl), hz, ← Option.some.inj hx]
    · rw [List.getElem?_set_ne (fun e2 => e e2.symm)] at hx
      rw [World.cell?_setCell_other (h := by intro e2; exact e (by injection e2 with _ e3 _; exact e3.symm))]
      exact h2 i x hx
  · rw [World.frozen?_setCell]
    exact h3 i (by simpa using hi)
/-- The bits, k of them changed. -/
def flK (l : List UInt8) (k : Nat) : List UInt8 := (l.take k).map (fun x => 97 - x) ++ l.drop k
theorem flK_zero (l : List UInt8) : flK l 0 = l := by simp [flK]
theorem flK_all (l : List UInt8) : flK l l.length = l.map fun x => 97 - x := by simp [flK]
theorem flK_len (l : List UInt8) (k : Nat) : (flK l k).length = l.length := by simp [flK]; omega
theorem flK_at {l : List UInt8} {k : Nat} {x : UInt8} (hx : l[k]? = some x) : (flK l k)[k]? = some x := by
  have hk := (List.getElem?_eq_some_iff.1 hx).1
  unfold flK
  rw [List.getElem?_append_right (by simp; omega)]
  simp [Nat.min_eq_left (Nat.le_of_lt hk), hx]
theorem flK_next {l : List UInt8} {k : Nat} {x : UInt8} (hx : l[k]? = some x) : (flK l k).set k (97 - x) = flK l (k + 1) := by
  have hk := (List.getElem?_eq_some_iff.1 hx).1
  unfold flK
  rw [List.set_append_right _ _ (by simp; omega)]
  rw [List.take_add_one, hx, List.map_append, List.append_assoc]
  congr 1
  have e : l.drop k = x :: l.drop (k + 1) := by
    rw [List.drop_eq_getElem_cons hk, (List.getElem?_eq_some_iff.1 hx).2]
  rw [e]
  simp [Nat.min_eq_left (Nat.le_of_lt hk)]
theorem flip_bits {l : List UInt8} (h : ∀ x ∈ l, x = 48 ∨ x = 49) : ∀ x ∈ l.map (fun x => 97 - x), x = 48 ∨ x = 49 := by
  intro x hx
  obtain ⟨y, hy, rfl⟩ := List.mem_map.1 hx
  rcases h y hy with rfl | rfl
  · exact .inr rfl
  · exact .inl rfl

/-- Bits with zeros behind each, one more. -/
theorem str_next {l : List UInt8} {i k : Nat} {x : UInt8} (hx : l[i]? = some x) : strL (l.take (i + 1)) k = strL (l.take i) k ++ (x :: List.replicate (k - 1) 48) := by
  unfold strL
  rw [List.take_add_one, hx]
  simp

end Go.Proofs.YtbfjppliploloaaDoor

/- ProgressionSet, ShiftSet, StretchSet of the model. -/
namespace Go.Proofs.YtbfjppliploloaaDoor
open Go.RowKit

theorem bits_rep (n : Nat) : ∀ x ∈ List.replicate n (48 : UInt8), x = 48 ∨ x = 49 := fun _ hx => .inl (List.eq_of_mem_replicate hx)
theorem bits_cat {a b : List UInt8} (h1 : ∀ x ∈ a, x = 48 ∨ x = 49) (h2 : ∀ x ∈ b, x = 48 ∨ x = 49) : ∀ x ∈ a ++ b, x = 48 ∨ x = 49 := fun x hx => by
  rcases List.mem_append.1 hx with h | h
  · exact h1 x h
  · exact h2 x h
theorem bits_str {l : List UInt8} {k : Nat} (h : ∀ x ∈ l, x = 48 ∨ x = 49) : ∀ x ∈ strL l k, x = 48 ∨ x = 49 := fun x hx => by
  unfold strL at hx
  obtain ⟨y, hy, hx⟩ := List.mem_flatMap.1 hx
  rcases List.mem_cons.1 hx with rfl | hx
  · exact h x hy
  · exact .inl (List.eq_of_mem_replicate hx)

set_option maxRecDepth 10000 in
set_option maxHeartbeats 4000000 in
theorem specProgressionSet_any (f s : Int) (w : World) (f0 : -9223372036854775808 ≤ f) (f1 : f ≤ 9223372036854775807) (s0 : -9223372036854775808 ≤ s) (s1 : s ≤ 9223372036854775807) :
    Calls Tryd.prog 33 #[.int .i64 f, .int .i64 s] w fun e w' => e = .returned (.tuple #[.agg #[.string (bs (prR f s).1.1), .string (bs (prR f s).1.2)], .bool (prR f s).2]) ∧ Below w.heap.size w w' := by
  have H1 := Lib.hid fun w => l1In_any f 0 400 w
  have H2 := Lib.hid fun w => l1In_any s 0 240 w
  by_cases hf : 0 ≤ f ∧ f ≤ 400
  case neg =>
    have HF : Hid (prR f s = (([], []), false)) := Lib.hid (by unfold prR; rw [decide_eq_false hf]; rfl)
    have e1 : inB f 0 400 = false := by unfold inB; exact decide_eq_false hf
    rw [e1] at H1
    clear hf e1
    go_enter Tryd.func33, Tryd.ntmps33
    go_wp2_with fail
    generalize hW0 : World.alloc w _ = W0
    obtain ⟨hr, hsr, hwr⟩ := s2_new hW0
    clear hW0
    have R3 := hr
    have B3 := hwr
    have hne : w.heap.size ≤ w.heap.size := Nat.le_refl _
    obtain ⟨a0, a1, a2, a3⟩ := id R3
    refine (H1.out _).mono ?_
    rintro e w' ⟨rfl, rfl⟩
    go_wp2
    generalize hW : World.setCell _ _ _ = W8
    obtain ⟨⟨_, r1, r2, _⟩, _, _, hb8⟩ := s2_put hW _ _ R3
    refine bodyPost_ret (v := .tuple #[.agg #[.string ⟨#[]⟩, .string ⟨#[]⟩], .bool false]) (by simp [results, Tryd.results33, go_sem, r1, r2]) rfl ⟨by rw [HF.out]; rfl, ?_⟩
    exact hb8 w B3 hne
  by_cases hs : 0 ≤ s ∧ s ≤ 240
  case neg =>
    have HF : Hid (prR f s = (([], []), false)) := Lib.hid (by unfold prR; rw [decide_eq_false hs, Bool.and_false]; rfl)
    have e1 : inB f 0 400 = true := by unfold inB; exact decide_eq_true hf
    have e2 : inB s 0 240 = false := by unfold inB; exact decide_eq_false hs
    rw [e1] at H1
    rw [e2] at H2
    clear hf hs e1 e2
    go_enter Tryd.func33, Tryd.ntmps33
    go_wp2_with fail
    generalize hW0 : World.alloc w _ = W0
    obtain ⟨hr, hsr, hwr⟩ := s2_new hW0
    clear hW0
    have R3 := hr
    have B3 := hwr
    have hne : w.heap.size ≤ w.heap.size := Nat.le_refl _
    obtain ⟨a0, a1, a2, a3⟩ := id R3
    refine (H1.out _).mono ?_
    rintro e w' ⟨rfl, rfl⟩
    go_wp2_with fail
    refine (H2.out _).mono ?_
    rintro e w' ⟨rfl, rfl⟩
    go_wp2
    generalize hW : World.setCell _ _ _ = W8
    obtain ⟨⟨_, r1, r2, _⟩, _, _, hb8⟩ := s2_put hW _ _ R3
    refine bodyPost_ret (v := .tuple #[.agg #[.string ⟨#[]⟩, .string ⟨#[]⟩], .bool false]) (by simp [results, Tryd.results33, go_sem, r1, r2]) rfl ⟨by rw [HF.out]; rfl, ?_⟩
    exact hb8 w B3 hne
  have HF0 : Hid (prR f s = resA (prA f.toNat s.toNat)) := Lib.hid (by unfold prR; rw [decide_eq_true hf, decide_eq_true hs]; rfl)
  have e1 : inB f 0 400 = true := by unfold inB; exact decide_eq_true hf
  have e2 : inB s 0 240 = true := by unfold inB; exact decide_eq_true hs
  rw [e1] at H1
  rw [e2] at H2
  obtain ⟨F, rfl⟩ : ∃ F : Nat, f = F := ⟨f.toNat, by omega⟩
  obtain ⟨S, rfl⟩ : ∃ S : Nat, s = S := ⟨s.toNat, by omega⟩
  have hF : F ≤ 400 := by omega
  have hS : S ≤ 240 := by omega
  have happ := bs_app
  have hb49 : ({ data := #[49] } : ByteArray) = bs [49] := rfl
  have HM := Lib.hid fun w => l17Many_any [48] F w (by simp) (by omega)
  rw [rep_zero] at HM
  clear hf hs e1 e2 f0 f1 s0 s1
  by_cases hS0 : S = 0
  · subst hS0
    have HR := Lib.hid fun w => l7Result_any (List.replicate F 48 ++ [49]) [48] w (by simp) (bits_cat (bits_rep F) (by simp)) (by simp) (by simp; omega) (by simp)
    have e : atS (List.replicate F 48 ++ [49]) [48] = prA F 0 := funext fun n => pr_at0 F n
    rw [e] at HR
    obtain ⟨r, hr0⟩ : ∃ r, resA (prA F 0) = r := ⟨_, rfl⟩
    have HF : Hid (prR F (0 : Nat) = r) := Lib.hid (by rw [HF0.out, ← hr0]; rfl)
    rw [hr0] at HR
    obtain ⟨Z, hZ⟩ : ∃ Z, List.replicate F (48 : UInt8) = Z := ⟨_, rfl⟩
    have hz1 := bs_size Z
    have hzl : Z.length = F := by rw [← hZ]; simp
    rw [hzl] at hz1
    have hz2 : (bs ([49] : List UInt8)).size = 1 := bs_size [49]
    rw [hZ] at HM HR
    have ge : (((0 : Nat) : Int) == 0) = true := rfl
    clear e hr0 hZ hzl HF0
    go_enter Tryd.func33, Tryd.ntmps33
    go_wp2_with fail
    generalize hW0 : World.alloc w _ = W0
    obtain ⟨hr, hsr, hwr⟩ := s2_new hW0
    clear hW0
    have R3 := hr
    have B3 := hwr
    have hne : w.heap.size ≤ w.heap.size := Nat.le_refl _
    obtain ⟨a0, a1, a2, a3⟩ := id R3
    refine (H1.out _).mono ?_
    rintro e w' ⟨rfl, rfl⟩
    go_wp2_with fail
    refine (H2.out _).mono ?_
    rintro e w' ⟨rfl, rfl⟩
    go_wp2_with fail
    refine (HM.out _).mono ?_
    rintro e w' ⟨rfl, rfl⟩
    go_wp2_with fail
    refine (HR.out _).mono ?_
    rintro e w5 ⟨rfl, hb5⟩
    have R5 := s2_on R3 hb5
    have B5 := below_on B3 hb5
    clear a0 a1 a2 a3
    obtain ⟨a0, a1, a2, a3⟩ := id R5
    go_wp2
    generalize hW : World.setCell _ _ _ = W8
    obtain ⟨⟨_, r1, r2, _⟩, _, _, hb8⟩ := s2_put hW _ _ R5
    refine bodyPost_ret (v := .tuple #[.agg #[.string (bs r.1.1), .string (bs r.1.2)], .bool r.2]) (by simp [results, Tryd.results33, go_sem, r1, r2]) rfl ⟨by rw [HF.out], ?_⟩
    exact hb8 w B5 hne
  · have HR := Lib.hid fun w => l7Result_any (List.replicate F 48) (49 :: List.replicate (S - 1) 48) w (by simp) (bits_rep F) (bits_cat (a := [49]) (by simp) (bits_rep (S - 1))) (by simp; omega) (by simp; omega)
    have e : atS (List.replicate F 48) (49 :: List.replicate (S - 1) 48) = prA F S := funext fun n => pr_at1 F S n (by omega)
    rw [e] at HR
    obtain ⟨r, hr0⟩ : ∃ r, resA (prA F S) = r := ⟨_, rfl⟩
    have HF : Hid (prR F S = r) := Lib.hid (by rw [HF0.out, ← hr0]; rfl)
    rw [hr0] at HR
    have HM2 := Lib.hid fun w => l17Many_any [48] (S - 1) w (by simp) (by omega)
    rw [rep_zero] at HM2
    obtain ⟨S1, hS1⟩ : ∃ k, S - 1 = k := ⟨_, rfl⟩
    rw [hS1] at HM2 HR
    have hws : IntKind.i64.wrap ((S : Int) - 1) = (S1 : Int) := by rw [IntKind.wrap_i64]; omega
    obtain ⟨Z, hZ⟩ : ∃ Z, List.replicate F (48 : UInt8) = Z := ⟨_, rfl⟩
    obtain ⟨Y, hY⟩ : ∃ Z, List.replicate S1 (48 : UInt8) = Z := ⟨_, rfl⟩
    have hz1 := bs_size Y
    have hzl : Y.length = S1 := by rw [← hY]; simp
    rw [hzl] at hz1
    have hz2 : (bs ([49] : List UInt8)).size = 1 := bs_size [49]
    have hcat : bs [49] ++ bs Y = bs (49 :: Y) := happ [49] Y
    rw [hZ] at HM HR
    rw [hY] at HM2 HR
    have hS1b : S1 ≤ 1000 := by omega
    have ge : ((S : Int) == 0) = false := by rw [beq_eq_false_iff_ne]; omega
    clear e hr0 hZ hY hzl HF0 hS1 hS0 happ
    go_enter Tryd.func33, Tryd.ntmps33
    go_wp2_with fail
    generalize hW0 : World.alloc w _ = W0
    obtain ⟨hr, hsr, hwr⟩ := s2_new hW0
    clear hW0
    have R3 := hr
    have B3 := hwr
    have hne : w.heap.size ≤ w.heap.size := Nat.le_refl _
    obtain ⟨a0, a1, a2, a3⟩ := id R3
    refine (H1.out _).mono ?_
    rintro e w' ⟨rfl, rfl⟩
    go_wp2_with fail
    refine (H2.out _).mono ?_
    rintro e w' ⟨rfl, rfl⟩
    go_wp2_with fail
    refine (HM.out _).mono ?_
    rintro e w' ⟨rfl, rfl⟩
    go_wp2_with fail
    refine (HM2.out _).mono ?_
    rintro e w' ⟨rfl, rfl⟩
    go_wp2_with fail
    refine (HR.out _).mono ?_
    rintro e w5 ⟨rfl, hb5⟩
    have R5 := s2_on R3 hb5
    have B5 := below_on B3 hb5
    clear a0 a1 a2 a3
    obtain ⟨a0, a1, a2, a3⟩ := id R5
    go_wp2
    generalize hW : World.setCell _ _ _ = W8
    obtain ⟨⟨_, r1, r2, _⟩, _, _, hb8⟩ := s2_put hW _ _ R5
    refine bodyPost_ret (v := .tuple #[.agg #[.string (bs r.1.1), .string (bs r.1.2)], .bool r.2]) (by simp [results, Tryd.results33, go_sem, r1, r2]) rfl ⟨by rw [HF.out], ?_⟩
    exact hb8 w B5 hne

end Go.Proofs.YtbfjppliploloaaDoor

/- DivideSet of the model. -/
namespace Go.Proofs.YtbfjppliploloaaDoor
open Go.RowKit

end Go.Proofs.YtbfjppliploloaaDoor

/- SumSets of the model. -/
namespace Go.Proofs.YtbfjppliploloaaDoor
open Go.RowKit

theorem bm_put {W : World} {b m j : Nat} {g : Nat → Bool} (h : BR W b (fun i => bitS (g i)) m m) (hj : j < m) : BR (W.setCell ⟨b, j, none⟩ (.int .u8 49)) b (fun i => bitS (g i || decide (i = j))) m m := by
  obtain ⟨c, h1, h2, h3⟩ := h
  refine ⟨_, heap_setCell_same _ _ _ _ _ _ h1, by simpa using h2, fun i hi => ?_⟩
  by_cases e : i = j
  · subst e
    rw [Array.getElem?_setIfInBounds_self_of_lt (by omega)]
    simp [bitS]
  · rw [Array.getElem?_setIfInBounds_ne (by omega), h3 i hi]
    simp [e]
theorem bm_as {W : World} {b m : Nat} {g g' : Nat → Bool} (h : BR W b (fun i => bitS (g i)) m m) (e : ∀ n, n < m → g n = g' n) : BR W b (fun i => bitS (g' i)) m m := by
  obtain ⟨c, h1, h2, h3⟩ := h
  exact ⟨c, h1, h2, fun i hi => by rw [h3 i hi]; simp only [e i hi]⟩
/-- What is told when the first numbers are done. -/
def gA (a b : Nat → UInt8) (k n : Nat) : Bool := (List.range k).any fun i => decide (i ≤ n) && (inS a i && inS b (n - i))
def gB (a b : Nat → UInt8) (k j n : Nat) : Bool := gA a b k n || (inS a k && (List.range j).any fun i => inS b i && decide (k + i = n))
theorem gA_next (a b : Nat → UInt8) (k n : Nat) : gA a b (k + 1) n = (gA a b k n || (decide (k ≤ n) && (inS a k && inS b (n - k)))) := by
  unfold gA
  rw [List.range_succ, List.any_append]
  simp
theorem gB_zero (a b : Nat → UInt8) (k n : Nat) : gB a b k 0 n = gA a b k n := by simp [gB]
theorem gB_off {a b : Nat → UInt8} {k : Nat} (h : inS a k = false) (j n : Nat) : gB a b k j n = gA a b (k + 1) n := by
  rw [gA_next]
  simp [gB, h]
theorem gB_skip {a b : Nat → UInt8} {k j : Nat} (h : inS b j = false) (n : Nat) : gB a b k j n = gB a b k (j + 1) n := by
  unfold gB
  rw [List.range_succ, List.any_append]
  simp [h]
theorem gB_put {a b : Nat → UInt8} {k j : Nat} (h1 : inS a k = true) (h2 : inS b j = true) (n : Nat) : (gB a b k j n || decide (n = k + j)) = gB a b k (j + 1) n := by
  unfold gB
  rw [List.range_succ, List.any_append]
  simp [h1, h2, Bool.or_assoc]
  congr 2
  rw [decide_eq_decide]
  exact eq_comm
theorem gB_end {a b : Nat → UInt8} {k j m n : Nat} (hj : m ≤ k + j) (hn : n < m) : gB a b k j n = gA a b (k + 1) n := by
  rw [gA_next]
  unfold gB
  congr 1
  rw [Bool.eq_iff_iff]
  simp only [Bool.and_eq_true, List.any_eq_true, List.mem_range, decide_eq_true_eq]
  constructor
  · rintro ⟨h1, i, hi, h2, rfl⟩
    exact ⟨by omega, h1, by rw [Nat.add_sub_cancel_left]; exact h2⟩
  · rintro ⟨h0, h1, h2⟩
    exact ⟨h1, n - k, by omega, h2, by omega⟩
theorem gA_sum {a b : Nat → UInt8} {m n : Nat} (hn : n < m) : gA a b m n = sumB a b n := by
  rw [Bool.eq_iff_iff, sumB_iff]
  unfold gA
  simp only [List.any_eq_true, List.mem_range, Bool.and_eq_true, decide_eq_true_eq]
  constructor
  · rintro ⟨i, _, h0, h1, h2⟩
    exact ⟨i, n - i, by omega, h1, h2⟩
  · rintro ⟨i, j, rfl, h1, h2⟩
    exact ⟨i, by omega, by omega, h1, by rw [Nat.add_sub_cancel_left]; exact h2⟩

end Go.Proofs.YtbfjppliploloaaDoor
