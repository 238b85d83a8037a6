/- LowerBounds answers as its model does, for all arguments. No condition. -/
import Derived.Test.YtcgolbkpfncgpaaPerI
import Derived.Test.YtcgolbkpfncgpaaTmS
import Derived.Deep.AppendLies
import Derived.Test.YtcgolbkpfncgpaaFm
import Derived.Deep.RegionHeld3
import Derived.Test.YtcgolbkpfncgpaaLift
import Derived.Test.YtcgolbkpfncgpaaLift3
import Derived.Test.YtcgolbkpfncgpaaFact1
import Derived.Test.YtcgolbkpfncgpaaFact2
import Derived.Test.YtcgolbkpfncgpaaFact3
import Derived.JoinedOf
import Derived.JoinedAt
import Derived.RowKit3

/- The terms that bound a variable from below: data; which lists have a term: the model's l6Has and the program's slices.Contains. -/
namespace Go.Proofs.Ytcgolbkpfncgpaa
open Go.RowKit

/-- A term without a variable. -/
def wo (v : Int) (x : AtD) : TmD := ⟨if v = 0 then 0 else x.a, if v = 1 then 0 else x.b, if v = 2 then 0 else x.c, if v = 3 then 0 else x.d, x.n⟩
def tmE (x y : TmD) : Bool := decide (x.a = y.a ∧ x.b = y.b ∧ x.c = y.c ∧ x.d = y.d ∧ x.n = y.n)
theorem tmE_comm (x y : TmD) : tmE x y = tmE y x := by
  unfold tmE
  congr 1
  simp only [eq_comm]
def lbS (v : Int) (acc : List TmD) (x : AtD) : List TmD := if ((x.k == 0) && (cfA v x == -1)) = true then (if acc.any (tmE (wo v x)) = true then acc else acc ++ [wo v x]) else acc
def lbL (v : Int) (L : List AtD) : List TmD := L.foldl (lbS v) [⟨0, 0, 0, 0, 0⟩]
theorem lb_take {v : Int} {L : List AtD} {k : Nat} {x : AtD} (h : L[k]? = some x) : lbL v (L.take (k + 1)) = lbS v (lbL v (L.take k)) x := by
  unfold lbL
  rw [List.take_add_one, h, List.foldl_append]
  rfl
theorem lbS_len (v : Int) (acc : List TmD) (x : AtD) : (lbS v acc x).length ≤ acc.length + 1 ∧ acc.length ≤ (lbS v acc x).length := by
  unfold lbS
  split
  · split
    · omega
    · simp
  · omega
theorem lb_len (v : Int) (L : List AtD) : ∀ acc : List TmD, (L.foldl (lbS v) acc).length ≤ acc.length + L.length ∧ acc.length ≤ (L.foldl (lbS v) acc).length := by
  induction L with
  | nil => intro acc; simp
  | cons x r ih =>
    intro acc
    simp only [List.foldl_cons, List.length_cons]
    have := ih (lbS v acc x)
    have := lbS_len v acc x
    omega
theorem lbL_len (v : Int) (L : List AtD) : (lbL v L).length ≤ L.length + 1 ∧ 1 ≤ (lbL v L).length := by
  have := lb_len v L [⟨0, 0, 0, 0, 0⟩]
  simp only [List.length_cons, List.length_nil] at this
  unfold lbL
  omega

theorem Try.eql_term (a b c d n a' b' c' d' n' : Int) (t : Bool) (h : decide (a = a' ∧ b = b' ∧ c = c' ∧ d = d' ∧ n = n') = t) (w : World) :
    (binOp .eql 24 (.agg #[.int .i64 a, .int .i64 b, .int .i64 c, .int .i64 d, .int .i64 n]) (.agg #[.int .i64 a', .int .i64 b', .int .i64 c', .int .i64 d', .int .i64 n'])).run Try.prog w = .ok (.bool t) w := by
  subst h
  by_cases h2 : a = a'
  · by_cases h3 : b = b'
    · by_cases h4 : c = c'
      · by_cases h5 : d = d'
        · by_cases h6 : n = n'
          · subst h2 h3 h4 h5 h6; go_simp
          · subst h2 h3 h4 h5; go_simp
        · subst h2 h3 h4; go_simp
      · subst h2 h3; go_simp
    · subst h2; go_simp
  · go_simp

theorem any_at' {p : TmD → Bool} {L : List TmD} {k : Nat} {x : TmD} (h : L[k]? = some x) (hp : p x = true) : L.any p = true := by
  rw [List.any_eq_true]
  exact ⟨x, List.mem_of_getElem? h, hp⟩
theorem any_of' {p : TmD → Bool} {L : List TmD} (h : ∀ (i : Nat) (x : TmD), i < L.length → L[i]? = some x → p x = false) : L.any p = false := by
  rw [List.any_eq_false]
  intro x hx
  obtain ⟨i, hi, e⟩ := List.mem_iff_getElem.1 hx
  rw [h i x hi (by rw [List.getElem?_eq_getElem hi, e])]
  simp
theorem any_next' {p : TmD → Bool} {L : List TmD} {k : Nat} {y : TmD} (hy : L[k]? = some y) (h1 : p y = false) (h : ∀ (i : Nat) (x : TmD), i < k → L[i]? = some x → p x = false) : ∀ (i : Nat) (x : TmD), i < k + 1 → L[i]? = some x → p x = false := by
  intro i x hi hx
  by_cases hik : i < k
  · exact h i x hik hx
  · obtain rfl : i = k := by omega
    rw [hy] at hx
    obtain rfl := Option.some.inj hx
    exact h1

set_option maxHeartbeats 1000000 in
theorem l6Has_any (u : Value) (L : List TmD) (t : TmD) (w : World) (h : RdT w u L) (hL : L.length ≤ 1000000) :
    Calls Try.prog 117 #[u, .agg #[.int .i64 t.a, .int .i64 t.b, .int .i64 t.c, .int .i64 t.d, .int .i64 t.n]] w (BoolT (L.any (tmE t)) w) := by
  obtain ⟨sp, cap, rfl, hc⟩ := h
  obtain ⟨N, hN⟩ : ∃ N, L.length = N := ⟨_, rfl⟩
  have HN := Lib.hid hN
  have HCL := Lib.hid hc
  rw [hN] at hL ⊢
  clear hN hc
  go_enter Try.func117, Try.ntmps117
  go_wp2_with fail
  generalize hW : w.alloc _ = W
  have hx : C5 W w.heap.size t.a t.b t.c t.d t.n := by subst hW; exact (by refine ⟨?_, ?_, ?_, ?_, ?_, ?_⟩ <;> first | (simp [go_sem]; done) | (simp; omega))
  have hw : Below w.heap.size w W := by subst hW; go_grown
  clear hW
  obtain ⟨x0, x1, x2, x3, x4, x5⟩ := hx
  go_loopw [5] (fun i wr => ∃ k q : Nat, i = .int .i64 k ∧ k ≤ N ∧ wr = W.drewN q ∧ ∀ (i : Nat) (x : TmD), i < k → L[i]? = some x → tmE t x = false) (fun i _ => N - (intOf i).toNat)
  case atStart => exact ⟨0, 0, rfl, Nat.zero_le _, rfl, fun i x h0 => absurd h0 (by omega)⟩
  case round =>
    obtain ⟨k, q, rfl, hk, rfl, hall⟩ := hrel
    have HA := Lib.hid hall
    clear hall
    by_cases hlt : k < N
    · have hk' : (k : Int) < (N : Int) := by omega
      obtain ⟨y, hy⟩ : ∃ y, L[k]? = some y := ⟨_, List.getElem?_eq_getElem (by rw [HN.out]; exact hlt)⟩
      have HY := Lib.hid hy
      obtain ⟨b, rfl, hbl, hcell⟩ := HCL.out.resolve_left (by rw [HN.out]; omega)
      have f : ∀ o, W.cell? ⟨b, o, none⟩ = w.cell? ⟨b, o, none⟩ := fun o => hw.cell (p := ⟨b, o, none⟩) hbl
      have r1 : TRow W b (k * 5) y := by have := hcell k y hy; simpa only [TRow, f] using this
      obtain ⟨c0, c1, c2, c3, c4⟩ := r1
      clear hcell f hy
      obtain ⟨s, hs⟩ : ∃ s, tmE t y = s := ⟨_, rfl⟩
      have HS := Lib.hid hs
      have he := fun V => Try.eql_term y.a y.b y.c y.d y.n t.a t.b t.c t.d t.n s (by rw [← hs, tmE_comm]; rfl) V
      clear hs
      cases s with
      | true =>
        go_wp2_with fail
        go_quiet (fail)
        go_wp2
        go_ret
        exact ⟨va_bool (by rw [any_at' HY.out HS.out]), below_on hw (below_dn (below_dn (Below.refl _ _)))⟩
      | false =>
        go_wp2_with fail
        go_quiet (fail)
        go_wp2
        go_roundw
        case rel => exact ⟨k + 1, _, by go_num, by omega, rfl, any_next' HY.out HS.out HA.out⟩
        case measure => simp [intOf]; omega
    · have hk' : ¬ (k : Int) < (N : Int) := by omega
      obtain rfl : k = N := by omega
      go_wp2
      go_ret
      exact ⟨va_bool (by rw [any_of' (fun i x h1 h2 => HA.out i x (by rw [← HN.out]; exact h1) h2)]), below_on hw (below_dn (Below.refl _ _))⟩

set_option maxHeartbeats 1000000 in
theorem tidx_any (u : Value) (L : List TmD) (t : TmD) (w : World) (h : RdT w u L) (hL : L.length ≤ 1000000) :
    Calls Try.prog 124 #[u, .agg #[.int .i64 t.a, .int .i64 t.b, .int .i64 t.c, .int .i64 t.d, .int .i64 t.n]] w (IdxT (L.any (tmE t)) w) := by
  obtain ⟨sp, cap, rfl, hc⟩ := h
  obtain ⟨N, hN⟩ : ∃ N, L.length = N := ⟨_, rfl⟩
  have HN := Lib.hid hN
  have HCL := Lib.hid hc
  rw [hN] at hL ⊢
  clear hN hc
  go_enter Try.func124, Try.ntmps124
  go_wp2_with fail
  generalize hW : w.alloc _ = W
  have hx : C5 W w.heap.size t.a t.b t.c t.d t.n := by subst hW; exact (by refine ⟨?_, ?_, ?_, ?_, ?_, ?_⟩ <;> first | (simp [go_sem]; done) | (simp; omega))
  have hw : Below w.heap.size w W := by subst hW; go_grown
  clear hW
  obtain ⟨x0, x1, x2, x3, x4, x5⟩ := hx
  go_loopw [8] (fun i wr => ∃ k q : Nat, i = .int .i64 k ∧ k ≤ N ∧ wr = W.drewN q ∧ ∀ (i : Nat) (x : TmD), i < k → L[i]? = some x → tmE t x = false) (fun i _ => N - (intOf i).toNat)
  case atStart => exact ⟨0, 0, rfl, Nat.zero_le _, rfl, fun i x h0 => absurd h0 (by omega)⟩
  case round =>
    obtain ⟨k, q, rfl, hk, rfl, hall⟩ := hrel
    have HA := Lib.hid hall
    clear hall
    by_cases hlt : k < N
    · have hk' : (k : Int) < (N : Int) := by omega
      obtain ⟨y, hy⟩ : ∃ y, L[k]? = some y := ⟨_, List.getElem?_eq_getElem (by rw [HN.out]; exact hlt)⟩
      have HY := Lib.hid hy
      obtain ⟨b, rfl, hbl, hcell⟩ := HCL.out.resolve_left (by rw [HN.out]; omega)
      have f : ∀ o, W.cell? ⟨b, o, none⟩ = w.cell? ⟨b, o, none⟩ := fun o => hw.cell (p := ⟨b, o, none⟩) hbl
      have r1 : TRow W b (k * 5) y := by have := hcell k y hy; simpa only [TRow, f] using this
      obtain ⟨c0, c1, c2, c3, c4⟩ := r1
      clear hcell f hy
      obtain ⟨s, hs⟩ : ∃ s, tmE t y = s := ⟨_, rfl⟩
      have HS := Lib.hid hs
      have he := fun V => Try.eql_term t.a t.b t.c t.d t.n y.a y.b y.c y.d y.n s (by rw [← hs]; rfl) V
      clear hs
      cases s with
      | true =>
        go_wp2_with fail
        go_quiet (fail)
        go_wp2
        go_ret
        exact ⟨_, rfl, by rw [any_at' HY.out HS.out]; exact decide_eq_true (by omega), below_on hw (below_dn (below_dn (Below.refl _ _)))⟩
      | false =>
        go_wp2_with fail
        go_quiet (fail)
        go_wp2
        go_roundw
        case rel => exact ⟨k + 1, _, by go_num, by omega, rfl, any_next' HY.out HS.out HA.out⟩
        case measure => simp [intOf]; omega
    · have hk' : ¬ (k : Int) < (N : Int) := by omega
      obtain rfl : k = N := by omega
      go_wp2
      go_ret
      exact ⟨_, rfl, by rw [any_of' (fun i x h1 h2 => HA.out i x (by rw [← HN.out]; exact h1) h2)]; rfl, below_on hw (below_dn (Below.refl _ _))⟩

theorem tcon_any (u : Value) (L : List TmD) (t : TmD) (w : World) (h : RdT w u L) (hL : L.length ≤ 1000000) :
    Calls Try.prog 83 #[u, .agg #[.int .i64 t.a, .int .i64 t.b, .int .i64 t.c, .int .i64 t.d, .int .i64 t.n]] w (BoolT (L.any (tmE t)) w) := by
  have H := Lib.hid (fun W (hW : Below w.heap.size w W) => tidx_any u L t W (readsT_on h hW) hL)
  obtain ⟨sp, cap, rfl, _⟩ := h
  go_enter Try.func83, Try.ntmps83
  go_wp2_with fail
  refine (H.out _ (by go_grown)).mono ?_
  rintro e w1 ⟨r, rfl, hr, hb⟩
  go_wp2
  go_ret
  exact ⟨rfl, below_on (by go_grown) hb⟩

end Go.Proofs.Ytcgolbkpfncgpaa

/- The model's LowerBounds. -/
namespace Go.Proofs.Ytcgolbkpfncgpaa
open Go.RowKit

theorem Try.infoTerm1 : (Try.prog.info? 24).map (fun i => (i.zero, i.size, i.bytes)) = some (some (.agg #[.int .i64 0, .int .i64 0, .int .i64 0, .int .i64 0, .int .i64 0]), 5, 40) := by kernel_rfl
theorem tl_ints (L : List TmD) : ∀ u ∈ TL L, u.oneCell' = true := by
  induction L with
  | nil => intro u hu; simp [TL] at hu
  | cons x r ih =>
    intro u hu
    simp only [TL, List.mem_append] at hu
    rcases hu with hu | hu
    · simp only [tcells, List.mem_cons, List.not_mem_nil, or_false] at hu
      rcases hu with rfl | rfl | rfl | rfl | rfl <;> rfl
    · exact ih u hu
theorem term_news {w : World} (x : TmD) : ∀ j u, (tcells x)[j]? = some u → (w.alloc (.cells (tcells x).toArray 24)).cell? ((⟨w.heap.size, 0, none⟩ : Addr).add j) = some u := by
  intro j u hj
  match j, hj with
  | 0, hj => simp [tcells] at hj; subst hj; simp [Addr.add, tcells]
  | 1, hj => simp [tcells] at hj; subst hj; simp [Addr.add, tcells]
  | 2, hj => simp [tcells] at hj; subst hj; simp [Addr.add, tcells]
  | 3, hj => simp [tcells] at hj; subst hj; simp [Addr.add, tcells]
  | 4, hj => simp [tcells] at hj; subst hj; simp [Addr.add, tcells]
  | j + 5, hj => simp [tcells] at hj
theorem ownT_lit {w : World} {B : Nat} (cs : Array Value) (L : List TmD) (hB : B ≤ w.heap.size) (hl : L.length ≤ 1000) (hcs : cs.toList = TL L) : OwnT (w.alloc (.cells cs 24)) B (.slice (some ⟨w.heap.size, 0, none⟩) L.length L.length) L := by
  have h := World.ownsRow_lit (base := B) (e := 24) (size := 5) w cs L.length hB (by unfold maxLen; omega) (by have := tl_len L; rw [← hcs] at this; simpa using this)
  rw [hcs] at h
  exact h
theorem ownT_lit2 (w : World) (o : Obj) (cs : Array Value) (L : List TmD) (hl : L.length ≤ 1000) (hcs : cs.toList = TL L) : OwnT ((w.alloc o).alloc (.cells cs 24)) w.heap.size (.slice (some ⟨w.heap.size + 1, 0, none⟩) L.length L.length) L := by
  have h := ownT_lit (w := w.alloc o) (B := w.heap.size) cs L (by simp) hl hcs
  have e : (w.alloc o).heap.size = w.heap.size + 1 := by simp
  rwa [e] at h

/-- A new list of terms, and whether there is one. -/
def LbT (L : List TmD) (ok : Bool) (w : World) (e : Ending) (w' : World) : Prop := ∃ v, e = .returned (.tuple #[v, .bool ok]) ∧ OwnT w' w.heap.size v L ∧ Below w.heap.size w w'
def lbV (v : Int) (h : FH) (f : Fo) : List TmD := if onB v h f = true then lbL v (atF h f) else []

theorem gr_on {w w1 w2 : World} {b : Nat} (h : w.grownBy w1 (some b)) (hb : Below w1.heap.size w1 w2) : w.grownBy w2 (some b) :=
  ⟨hb.os.trans h.os, hb.tape.trans h.tape, hb.output.trans h.output, Nat.le_trans h.size hb.size, fun i hi hn => (hb.block i (Nat.lt_of_lt_of_le hi h.size)).trans (h.block i hi hn)⟩
theorem gr_app {w w1 w2 : World} {b g : Nat} (h : w.grownBy w1 (some b)) (hg : w1.grownBy w2 (some g)) (hc : g = b ∨ w.heap.size ≤ g) : w.grownBy w2 (some b) :=
  ⟨hg.os.trans h.os, hg.tape.trans h.tape, hg.output.trans h.output, Nat.le_trans h.size hg.size, fun i hi hn => (hg.block i (Nat.lt_of_lt_of_le hi h.size) (fun e => by
    injection e with e
    subst e
    rcases hc with rfl | hc
    · exact hn rfl
    · omega)).trans (h.block i hi hn)⟩
theorem gr_cell {w w1 : World} {b g : Nat} (h : w.grownBy w1 (some b)) (hg : g < w.heap.size) (hn : g ≠ b) (o : Nat) : w1.cell? ⟨g, o, none⟩ = w.cell? ⟨g, o, none⟩ :=
  World.cell?_of_block (h.block g hg (fun e => hn (by injection e with e)))
theorem grb_below {w0 w w1 : World} {b : Nat} (hb : Below w0.heap.size w0 w) (h : w.grownBy w1 (some b)) (hB : w0.heap.size ≤ b) : Below w0.heap.size w0 w1 :=
  ⟨h.os.trans hb.os, h.tape.trans hb.tape, h.output.trans hb.output, Nat.le_trans hb.size h.size, fun i hi => (h.block i (Nat.lt_of_lt_of_le hi hb.size) (fun e => by injection e with e; omega)).trans (hb.block i hi)⟩

def LbR (v : Int) (L : List AtD) (B b0 : Nat) (w : World) (u i : Value) (wr : World) : Prop :=
  ∃ (k gu cu : Nat) (D : List TmD), i = .int .i64 k ∧ k ≤ L.length ∧ D = lbL v (L.take k) ∧ u = .slice (some ⟨gu, 0, none⟩) D.length cu ∧ (gu = b0 ∨ w.heap.size ≤ gu) ∧ OwnT wr B (.slice (some ⟨gu, 0, none⟩) D.length cu) D ∧ w.grownBy wr (some b0)

theorem lbS_no {v : Int} {acc : List TmD} {x : AtD} (h : (x.k == 0) = false ∨ (cfA v x == -1) = false) : lbS v acc x = acc := by
  have e : ((x.k == 0) && (cfA v x == -1)) = false := by rcases h with h | h <;> rw [h] <;> simp
  unfold lbS
  rw [if_neg (by rw [e]; decide)]
theorem lbS_in {v : Int} {acc : List TmD} {x : AtD} (h : acc.any (tmE (wo v x)) = true) : lbS v acc x = acc := by
  unfold lbS
  by_cases e : ((x.k == 0) && (cfA v x == -1)) = true
  · rw [if_pos e, if_pos h]
  · rw [if_neg e]
theorem lbS_out {v : Int} {acc : List TmD} {x : AtD} (h0 : (x.k == 0) = true) (h1 : (cfA v x == -1) = true) (h : acc.any (tmE (wo v x)) = false) : lbS v acc x = acc ++ [wo v x] := by
  unfold lbS
  rw [if_pos (by rw [h0, h1]; rfl), if_neg (by rw [h]; decide)]

set_option maxHeartbeats 1000000 in
theorem lWithout_any (a b c d n v : Int) (w : World) (hv : 0 ≤ v ∧ v < 4) :
    Calls Try.prog 63 #[.agg #[.int .i64 a, .int .i64 b, .int .i64 c, .int .i64 d, .int .i64 n], .int .i64 v] w fun e w' => e = .returned (.agg #[.int .i64 (if v = 0 then 0 else a), .int .i64 (if v = 1 then 0 else b), .int .i64 (if v = 2 then 0 else c), .int .i64 (if v = 3 then 0 else d), .int .i64 n]) ∧ Below w.heap.size w w' := by
  have h' : v = 0 ∨ v = 1 ∨ v = 2 ∨ v = 3 := by omega
  clear hv
  rcases h' with rfl | rfl | rfl | rfl
  · go_enter Try.func63, Try.ntmps63
    go_wp2_with (first | (go_at_call 105; refine (l1List_any _ _ _ _ _ _).mono ?_; rintro e w' ⟨rfl, rfl⟩) | (go_at_call 107; refine (l1Term_any 0 b c d n _ _ (by refine ⟨?_, ?_, ?_, ?_, ?_, ?_⟩ <;> first | (simp [go_sem]; done) | (simp; omega))).mono ?_; rintro e w' ⟨rfl, hb⟩; obtain ⟨hc, hf⟩ := bcell hb; have hz := hb.size; simp at hz; have hbb := below_step (B := w.heap.size) (w := w) (by go_grown) hb (by simp; omega)))
    refine bodyPost_ret (v := .agg #[.int .i64 0, .int .i64 b, .int .i64 c, .int .i64 d, .int .i64 n]) (by simp [results, Try.results63, go_sem, hc]) rfl ⟨rfl, ?_⟩
    go_grown
  · go_enter Try.func63, Try.ntmps63
    go_wp2_with (first | (go_at_call 105; refine (l1List_any _ _ _ _ _ _).mono ?_; rintro e w' ⟨rfl, rfl⟩) | (go_at_call 107; refine (l1Term_any a 0 c d n _ _ (by refine ⟨?_, ?_, ?_, ?_, ?_, ?_⟩ <;> first | (simp [go_sem]; done) | (simp; omega))).mono ?_; rintro e w' ⟨rfl, hb⟩; obtain ⟨hc, hf⟩ := bcell hb; have hz := hb.size; simp at hz; have hbb := below_step (B := w.heap.size) (w := w) (by go_grown) hb (by simp; omega)))
    refine bodyPost_ret (v := .agg #[.int .i64 a, .int .i64 0, .int .i64 c, .int .i64 d, .int .i64 n]) (by simp [results, Try.results63, go_sem, hc]) rfl ⟨rfl, ?_⟩
    go_grown
  · go_enter Try.func63, Try.ntmps63
    go_wp2_with (first | (go_at_call 105; refine (l1List_any _ _ _ _ _ _).mono ?_; rintro e w' ⟨rfl, rfl⟩) | (go_at_call 107; refine (l1Term_any a b 0 d n _ _ (by refine ⟨?_, ?_, ?_, ?_, ?_, ?_⟩ <;> first | (simp [go_sem]; done) | (simp; omega))).mono ?_; rintro e w' ⟨rfl, hb⟩; obtain ⟨hc, hf⟩ := bcell hb; have hz := hb.size; simp at hz; have hbb := below_step (B := w.heap.size) (w := w) (by go_grown) hb (by simp; omega)))
    refine bodyPost_ret (v := .agg #[.int .i64 a, .int .i64 b, .int .i64 0, .int .i64 d, .int .i64 n]) (by simp [results, Try.results63, go_sem, hc]) rfl ⟨rfl, ?_⟩
    go_grown
  · go_enter Try.func63, Try.ntmps63
    go_wp2_with (first | (go_at_call 105; refine (l1List_any _ _ _ _ _ _).mono ?_; rintro e w' ⟨rfl, rfl⟩) | (go_at_call 107; refine (l1Term_any a b c 0 n _ _ (by refine ⟨?_, ?_, ?_, ?_, ?_, ?_⟩ <;> first | (simp [go_sem]; done) | (simp; omega))).mono ?_; rintro e w' ⟨rfl, hb⟩; obtain ⟨hc, hf⟩ := bcell hb; have hz := hb.size; simp at hz; have hbb := below_step (B := w.heap.size) (w := w) (by go_grown) hb (by simp; omega)))
    refine bodyPost_ret (v := .agg #[.int .i64 a, .int .i64 b, .int .i64 c, .int .i64 0, .int .i64 n]) (by simp [results, Try.results63, go_sem, hc]) rfl ⟨rfl, ?_⟩
    go_grown

set_option maxRecDepth 10000 in
set_option maxHeartbeats 2000000 in
theorem specBounds_any (v : Int) (h : FH) (f : Fo) (w : World) (lo : Nat) (s : Value) (hs : FS w lo f s) (hz : f.size ≤ 600) (hv : 0 ≤ v ∧ v < 4) :
    Calls Try.prog 80 #[.agg #[.int .i64 h.k, .int .i64 h.ak, .int .i64 h.am, .int .i64 h.a, .int .i64 h.b, .int .i64 h.c, .int .i64 h.d, .int .i64 h.n, .int .i64 h.v, s], .int .i64 v] w fun e w' => ∃ u, e = .returned u ∧ OwnT w' w.heap.size u (lbL v (atF h f)) ∧ Below w.heap.size w w' := by
  have HN := Lib.hid (fun W hW => l3a_any h f W lo s (by omega) (FS.below (w := w) hW (Nat.le_refl _) hs))
  obtain ⟨sa, sn, sc, rfl⟩ := hs.slice
  obtain ⟨i0, hi, hz0, hz1, hz2⟩ := info_parts Try.infoTerm1
  have HII := Lib.hid (And.intro hi (And.intro hz0 (And.intro hz1 hz2)))
  clear hs hi hz0 hz1 hz2
  go_enter Try.func80, Try.ntmps80
  go_wp2_with fail
  generalize hW : (w.alloc _).alloc _ = W
  have hx : C10 W w.heap.size h (.slice sa sn sc) := by subst hW; exact (by refine ⟨?_, ?_, ?_, ?_, ?_, ?_, ?_, ?_, ?_, ?_, ?_⟩ <;> first | (simp [go_sem]; done) | (simp; omega))
  have hw : Below w.heap.size w W := by subst hW; go_grown
  have HO0 : Hid (OwnT W w.heap.size (.slice (some ⟨w.heap.size + 1, 0, none⟩) 1 1) [⟨0, 0, 0, 0, 0⟩]) := by
    subst hW
    exact ownT_lit2 w _ _ [⟨0, 0, 0, 0, 0⟩] (by simp) rfl
  have HW2 := Lib.hid (show w.heap.size + 1 < W.heap.size by subst hW; simp)
  clear hW
  refine (HN.out _ hw).mono ?_
  rintro e w3 ⟨g, cap, rfl, ho3, hb3⟩
  have hw3 := below_on hw hb3
  have HO3 := Lib.hid (show OwnT w3 w.heap.size _ [⟨0, 0, 0, 0, 0⟩] from own_below HO0.out hb3)
  obtain ⟨L, hL⟩ : ∃ L, atF h f = L := ⟨_, rfl⟩
  have HR3 := Lib.hid (ownA_reads ho3)
  have HGB := Lib.hid (show g ≠ w.heap.size + 1 from fun e => by have := World.ownsRow.lt ho3 g rfl; have := hx.1; have := HW2.out; omega)
  have HLE := Lib.hid hL
  rw [hL] at HR3
  rw [hL]
  obtain ⟨n, hn⟩ : ∃ n, L.length = n := ⟨_, rfl⟩
  have HNN := Lib.hid hn
  have hnl : n ≤ 601 := by have := atF_len h f; rw [hL, hn] at this; omega
  rw [hn] at HR3 ⊢
  have hs03 := hw3.size
  clear ho3 hb3 hw hx hn hL hz HO0
  go_wp2_with fail
  go_loopw [5, 7] (fun u i wr => LbR v L w.heap.size (w.heap.size + 1) w3 u i wr) (fun _ i _ => n - (intOf i).toNat)
  case atStart => exact ⟨0, w.heap.size + 1, 1, [⟨0, 0, 0, 0, 0⟩], rfl, Nat.zero_le _, rfl, rfl, .inl rfl, HO3.out, gr_on (only_below (Below.refl w3.heap.size w3) _) (Below.refl _ _)⟩
  case round =>
    obtain ⟨k, gu, cu, D, rfl, hk, hD, rfl, hgu, hown, hgw⟩ := hrel
    rw [HNN.out] at hk
    have HDD := Lib.hid hD
    have HO := Lib.hid hown
    have hdl : D.length ≤ 1000 := by
      have := (lbL_len v (L.take k)).1
      rw [← hD, List.length_take] at this
      omega
    have HGW := Lib.hid hgw
    have HGU := Lib.hid hgu
    have hsw := hgw.size
    clear hD hown HO3 hgu
    by_cases hlt : k < n
    · have hk' : (k : Int) < (n : Int) := by omega
      have hk0 : (0 : Int) ≤ k := by omega
      obtain ⟨y, hy⟩ : ∃ y, L[k]? = some y := ⟨_, List.getElem?_eq_getElem (by rw [HNN.out]; exact hlt)⟩
      have HT := Lib.hid (show lbL v (L.take (k + 1)) = lbS v D y by rw [lb_take hy, ← HDD.out])
      have HK2 := Lib.hid (show k + 1 ≤ L.length by rw [HNN.out]; omega)
      obtain ⟨sp, cp, e, hc⟩ := HR3.out
      injection e with e1 e2 e3
      subst e1 e3
      obtain ⟨b, e, hbl, hcell⟩ := hc.resolve_left (by rw [HNN.out]; omega)
      injection e with e
      injection e with e
      subst e
      have f : ∀ o, wr.cell? ⟨g, o, none⟩ = w3.cell? ⟨g, o, none⟩ := gr_cell hgw hbl HGB.out
      have r1 : ARow wr g (k * 7) y := by have := hcell k y hy; simpa only [ARow, f] using this
      have hgl : g < wr.heap.size := Nat.lt_of_lt_of_le hbl hsw
      obtain ⟨c0, c1, c2, c3, c4, c5, c6⟩ := id r1
      clear hcell f hy hc e2 hgw
      obtain ⟨q, hq⟩ : ∃ q, sel y.a y.b y.c y.d v 0 = q := ⟨_, rfl⟩
      have HQ := Lib.hid (show cfA v y = q from hq)
      have HC := Lib.hid fun W => specCoefOf_any y.a y.b y.c y.d y.n v W
      rw [hq] at HC
      clear hq
      cases h0 : y.k == 0 with
      | false =>
        have HE := Lib.hid (show lbL v (L.take (k + 1)) = D by rw [HT.out, lbS_no (.inl h0)])
        go_wp2
        go_roundw
        case rel => exact ⟨k + 1, gu, cu, D, by go_num, HK2.out, HE.out.symm, rfl, HGU.out, HO.out, HGW.out⟩
        case measure => simp [intOf]; omega
      | true =>
        go_wp2_with fail
        refine (HC.out _).mono ?_
        rintro e w4 ⟨rfl, hb4⟩
        have HGW4 := Lib.hid (gr_on HGW.out hb4)
        have HO4 := Lib.hid (show OwnT w4 w.heap.size _ D from own_below HO.out hb4)
        have f4 : ∀ o, w4.cell? ⟨g, o, none⟩ = wr.cell? ⟨g, o, none⟩ := fun o => hb4.cell (p := ⟨g, o, none⟩) hgl
        have r4 : ARow w4 g (k * 7) y := by simpa only [ARow, f4] using r1
        have hs4 := hb4.size
        clear c0 c1 c2 c3 c4 c5 c6 f4 hb4 r1
        cases h1 : q == -1 with
        | false =>
          have HE := Lib.hid (show lbL v (L.take (k + 1)) = D by rw [HT.out, lbS_no (.inr (by rw [HQ.out]; exact h1))])
          go_wp2
          go_roundw
          case rel => exact ⟨k + 1, gu, cu, D, by go_num, HK2.out, HE.out.symm, rfl, HGU.out, HO4.out, HGW4.out⟩
          case measure => simp [intOf]; omega
        | true =>
          obtain ⟨t, ht⟩ : ∃ t, wo v y = t := ⟨_, rfl⟩
          have HWO := Lib.hid fun W => (show Calls Try.prog 63 #[.agg #[.int .i64 y.a, .int .i64 y.b, .int .i64 y.c, .int .i64 y.d, .int .i64 y.n], .int .i64 v] W fun e w' => e = .returned (.agg #[.int .i64 t.a, .int .i64 t.b, .int .i64 t.c, .int .i64 t.d, .int .i64 t.n]) ∧ Below W.heap.size W w' from by rw [← ht]; exact lWithout_any y.a y.b y.c y.d y.n v W hv)
          obtain ⟨s, hs⟩ : ∃ s, D.any (tmE t) = s := ⟨_, rfl⟩
          have HS := Lib.hid (show D.any (tmE (wo v y)) = s by rw [ht]; exact hs)
          have HH := Lib.hid fun W u (hW : RdT W u D) => l6Has_any u D t W hW (by omega)
          rw [hs] at HH
          have HTT := Lib.hid ht
          clear ht hs
          obtain ⟨c0, c1, c2, c3, c4, c5, c6⟩ := r4
          go_wp2_with fail
          refine (HWO.out _).mono ?_
          rintro e w5 ⟨rfl, hb5⟩
          have HGW5 := Lib.hid (gr_on HGW4.out hb5)
          have HO5 := Lib.hid (show OwnT w5 w.heap.size _ D from own_below HO4.out hb5)
          have hs5 := hb5.size
          clear c0 c1 c2 c3 c4 c5 c6 hb5
          go_wp2_with fail
          generalize hW : w5.alloc _ = w6
          have hb6 : Below w5.heap.size w5 w6 := by subst hW; go_grown
          have hx6 : C5 w6 w5.heap.size t.a t.b t.c t.d t.n := by subst hW; exact (by refine ⟨?_, ?_, ?_, ?_, ?_, ?_⟩ <;> first | (simp [go_sem]; done) | (simp; omega))
          have HGW6 := Lib.hid (gr_on HGW5.out hb6)
          have HO6 := Lib.hid (show OwnT w6 w.heap.size _ D from own_below HO5.out hb6)
          have hs6 := hb6.size
          clear hW hb6
          refine (HH.out _ _ (ownT_reads HO6.out)).mono ?_
          rintro e w7 ⟨rfl, hb7⟩
          have HGW7 := Lib.hid (gr_on HGW6.out hb7)
          have hown7 := own_below (show w6.ownsRow w.heap.size 24 5 _ D.length (TL D) from HO6.out) hb7
          have hx7 := c5_on hx6 hb7
          have hs7 := hb7.size
          clear hb7 hx6
          cases s with
          | true =>
            have HE := Lib.hid (show lbL v (L.take (k + 1)) = D by rw [HT.out, lbS_in HS.out])
            have HO7 := Lib.hid (show OwnT w7 w.heap.size _ D from hown7)
            clear hown7
            go_wp2
            go_roundw
            case rel => exact ⟨k + 1, gu, cu, D, by go_num, HK2.out, HE.out.symm, rfl, HGU.out, HO7.out, HGW7.out⟩
            case measure => simp [intOf]; omega
          | false =>
            have HE := Lib.hid (show lbL v (L.take (k + 1)) = D ++ [t] by rw [HT.out, lbS_out h0 (by rw [HQ.out]; exact h1) HS.out, HTT.out])
            obtain ⟨hi, hz0, hz1, hz2⟩ := HII.out
            obtain ⟨x0, x1, x2, x3, x4, x5⟩ := hx7
            go_wp2_with (at_builtin; refine wpList_append_lies _ rfl _ _ 63 rfl w.heap.size 24 i0 (.agg #[.int .i64 0, .int .i64 0, .int .i64 0, .int .i64 0, .int .i64 0]) 5 40 Try.underlying63 hi hz0 hz1 hz2 rfl (by decide) _ _ _ rfl (hown7.alloc _) ⟨w7.heap.size, 0, none⟩ 1 1 (tcells t) rfl rfl ?c1 ?c2 (by decide) ?c3 ?c4 ?c5 _ rfl ?_)
            case c1 => exact term_news (w := w7) t
            case c2 => intro u hu; exact tl_ints [t] u (by simpa [TL] using hu)
            case c3 => unfold maxLen; omega
            case c4 => omega
            case c5 => simp; omega
            · intro g' cap' w8 hown8 hgrow hlie _
              have hbA : Below w7.heap.size w7 (w7.alloc (.cells (tcells t).toArray 24)) := by go_grown
              have HO8 : Hid (OwnT w8 w.heap.size (.slice (some ⟨g', 0, none⟩) (D ++ [t]).length cap') (D ++ [t])) := by
                show w8.ownsRow _ _ _ _ _ _
                rw [tl_app, List.length_append]
                have e : TL [t] = tcells t := by simp [TL]
                rw [e]
                exact hown8
              have HGW8 : Hid (w3.grownBy w8 (some (w.heap.size + 1))) := gr_app (gr_on HGW7.out hbA) hgrow HGU.out
              have HGU8 := Lib.hid (show g' = w.heap.size + 1 ∨ w3.heap.size ≤ g' by
                rcases hlie with h | h
                · have h' : gu = g' := by simpa [Value.ownBlock] using h
                  have := HGU.out
                  omega
                · right
                  first | omega | (simp at h; omega))
              clear hown7 hown8 hgrow hbA hi hz0 hz1 hz2 x0 x1 x2 x3 x4 x5 hlie
              go_wp2
              go_roundw
              case rel => exact ⟨k + 1, g', cap', D ++ [t], by go_num, HK2.out, HE.out.symm, by simp, HGU8.out, HO8.out, HGW8.out⟩
              case measure => simp [intOf]; omega
    · have hk' : ¬ (k : Int) < (n : Int) := by omega
      obtain rfl : k = n := by omega
      have hDL : D = lbL v L := by rw [HDD.out, ← HNN.out, List.take_length]
      have HE := Lib.hid (show OwnT wr w.heap.size (.slice (some ⟨gu, 0, none⟩) D.length cu) (lbL v (atF h f)) by rw [HLE.out, ← hDL]; exact HO.out)
      clear hgw hDL
      go_wp2
      go_ret
      exact ⟨.slice (some ⟨gu, 0, none⟩) D.length cu, rfl, HE.out, grb_below hw3 HGW.out (by omega)⟩

set_option maxHeartbeats 1000000 in
theorem specLowerBounds_any (v : Int) (h : FH) (f : Fo) (w : World) (lo : Nat) (s : Value) (hs : FS w lo f s) :
    Calls Try.prog 31 #[.agg #[.int .i64 h.k, .int .i64 h.ak, .int .i64 h.am, .int .i64 h.a, .int .i64 h.b, .int .i64 h.c, .int .i64 h.d, .int .i64 h.n, .int .i64 h.v, s], .int .i64 v] w (LbT (lbV v h f) (onB v h f) w) := by
  have HO := Lib.hid (fun W hW => specOnes_any v h f W lo s (FS.below (w := w) hW (Nat.le_refl _) hs))
  have HP := Lib.hid (fun W hW hz hv => specBounds_any v h f W lo s (FS.below (w := w) hW (Nat.le_refl _) hs) hz hv)
  obtain ⟨sa, sn, sc, rfl⟩ := hs.slice
  clear hs
  cases ho : onB v h f with
  | false =>
    have HI := Lib.hid (show lbV v h f = [] by unfold lbV; rw [if_neg (by rw [ho]; decide)])
    rw [ho] at HO
    clear ho
    go_enter Try.func31, Try.ntmps31
    go_wp2_with fail
    generalize hW : World.alloc _ _ = W
    have hw : Below w.heap.size w W := by subst hW; go_grown
    clear hW
    refine (HO.out _ hw).mono ?_
    rintro e w1 ⟨rfl, hb1⟩
    have hw1 := below_on hw hb1
    have hs1 := hw1.size
    have HON := Lib.hid (ownT_lit (w := w1) (B := w.heap.size) #[] [] hw1.size (by simp) rfl)
    go_wp2
    go_ret2
    exact ⟨_, rfl, by rw [HI.out]; exact HON.out, by go_grown⟩
  | true =>
    have HI := Lib.hid (show lbV v h f = lbL v (atF h f) by unfold lbV; rw [if_pos ho])
    obtain ⟨hv, hvb, _⟩ := on_parts ho
    have hz : f.size ≤ 600 := by have := (vf_parts hv).2.2; omega
    have hv4 : 0 ≤ v ∧ v < 4 := by simpa [varB] using hvb
    have HPP := Lib.hid (fun W hW => HP.out W hW hz hv4)
    rw [ho] at HO
    clear ho hv hvb hz hv4 HP
    go_enter Try.func31, Try.ntmps31
    go_wp2_with fail
    generalize hW : World.alloc _ _ = W
    have hx : C10 W w.heap.size h (.slice sa sn sc) := by subst hW; exact (by refine ⟨?_, ?_, ?_, ?_, ?_, ?_, ?_, ?_, ?_, ?_, ?_⟩ <;> first | (simp [go_sem]; done) | (simp; omega))
    have hw : Below w.heap.size w W := by subst hW; go_grown
    clear hW
    refine (HO.out _ hw).mono ?_
    rintro e w1 ⟨rfl, hb1⟩
    have hw1 := below_on hw hb1
    obtain ⟨x0, c0, c1, c2, c3, c4, c5, c6, c7, c8, c9⟩ := c10_on hx hb1
    go_wp2_with fail
    refine (HPP.out _ hw1).mono ?_
    rintro e w2 ⟨u, rfl, ho2, hb2⟩
    have HO2 := Lib.hid (show OwnT w2 w.heap.size u (lbL v (atF h f)) from own_mono ho2 hw1.size)
    have hw2 := below_on hw1 hb2
    clear x0 c0 c1 c2 c3 c4 c5 c6 c7 c8 c9 ho2 hb2
    go_wp2
    go_ret2
    exact ⟨_, rfl, by rw [HI.out]; exact HO2.out, hw2⟩

end Go.Proofs.Ytcgolbkpfncgpaa

/- The program's LowerBounds. -/
namespace Go.Proofs.Ytcgolbkpfncgpaa
open Go.RowKit

theorem wo_tv {v : Int} {x : AtD} (h : avZ x = true) : tvB (wo v x).a (wo v x).b (wo v x).c (wo v x).d (wo v x).n = true := by
  obtain ⟨_, ht⟩ := avB_cases h
  simp only [tvB, wlB, Bool.and_eq_true, decide_eq_true_eq] at ht ⊢
  unfold wo
  dsimp only
  refine ⟨⟨⟨⟨?_, ?_⟩, ?_⟩, ?_⟩, ?_⟩
  · split <;> omega
  · split <;> omega
  · split <;> omega
  · split <;> omega
  · omega

theorem lbV_len (v : Int) (h : FH) (f : Fo) : (lbV v h f).length ≤ 601 := by
  unfold lbV
  split
  · rename_i ho
    have h1 := (lbL_len v (atF h f)).1
    have h2 := atF_len h f
    have h3 := (vf_parts (on_parts ho).1).2.2
    omega
  · simp

set_option maxRecDepth 10000 in
set_option maxHeartbeats 4000000 in
theorem LowerBounds_any (v : Int) (h : FH) (f : Fo) (w : World) (lo : Nat) (s : Value) (hs : FS w lo f s) :
    Calls Try.prog 32 #[.agg #[.int .i64 h.k, .int .i64 h.ak, .int .i64 h.am, .int .i64 h.a, .int .i64 h.b, .int .i64 h.c, .int .i64 h.d, .int .i64 h.n, .int .i64 h.v, s], .int .i64 v] w (LbT (lbV v h f) (onB v h f) w) := by
  have HO := Lib.hid (fun W hW => isUnified_any v h f W lo s (FS.below (w := w) hW (Nat.le_refl _) hs))
  have HN := Lib.hid (fun W hW => AtomsOf_any h f W lo s (FS.below (w := w) hW (Nat.le_refl _) hs))
  obtain ⟨sa, sn, sc, rfl⟩ := hs.slice
  clear hs
  cases ho : onB v h f with
  | false =>
    have HI := Lib.hid (show lbV v h f = [] by unfold lbV; rw [if_neg (by rw [ho]; decide)])
    rw [ho] at HO
    clear ho
    go_enter Try.func32, Try.ntmps32
    go_wp2_with fail
    refine (HO.out _ (by go_grown)).mono ?_
    rintro e w1 ⟨rfl, hb1⟩
    go_wp2
    go_ret2
    exact ⟨_, rfl, by rw [HI.out]; exact World.ownsRow_nil _ _ _ _, below_on (by go_grown) hb1⟩
  | true =>
    have HI := Lib.hid (show lbV v h f = lbL v (atF h f) by unfold lbV; rw [if_pos ho])
    obtain ⟨hv6, hvb, _⟩ := on_parts ho
    have HAV := Lib.hid (atF_valid hv6)
    have hLe : atL h f = atF h f := by unfold atL; rw [if_pos hv6]
    have hnl0 : (atF h f).length ≤ 601 := by have := atF_len h f; have := (vf_parts hv6).2.2; omega
    have hv : 0 ≤ v ∧ v < 4 := by simpa [varB] using hvb
    rw [ho] at HO
    rw [hLe] at HN
    obtain ⟨L, hL⟩ : ∃ L, atF h f = L := ⟨_, rfl⟩
    rw [hL] at HI HAV HN hnl0
    obtain ⟨n, hn⟩ : ∃ n, L.length = n := ⟨_, rfl⟩
    have HNN := Lib.hid hn
    rw [hn] at hnl0
    obtain ⟨i0, hi, hz0, hz1, hz2⟩ := info_parts Try.infoTerm1
    have HII := Lib.hid (And.intro hi (And.intro hz0 (And.intro hz1 hz2)))
    clear ho hv6 hvb hLe hL hn hi hz0 hz1 hz2
    go_enter Try.func32, Try.ntmps32
    go_wp2_with fail
    generalize hW : World.alloc _ _ = W
    have hx : C10 W w.heap.size h (.slice sa sn sc) := by subst hW; exact (by refine ⟨?_, ?_, ?_, ?_, ?_, ?_, ?_, ?_, ?_, ?_, ?_⟩ <;> first | (simp [go_sem]; done) | (simp; omega))
    have hw : Below w.heap.size w W := by subst hW; go_grown
    clear hW
    refine (HO.out _ hw).mono ?_
    rintro e w1 ⟨rfl, hb1⟩
    have hw1 := below_on hw hb1
    have hx1 := c10_on hx hb1
    obtain ⟨x0, c0, c1, c2, c3, c4, c5, c6, c7, c8, c9⟩ := id hx1
    clear hx hw hb1
    go_wp2_with fail
    generalize hW : w1.alloc _ = w2
    have hb2 : Below w1.heap.size w1 w2 := by subst hW; go_grown
    have HO0 : Hid (OwnT w2 w.heap.size (.slice (some ⟨w1.heap.size, 0, none⟩) 1 1) [⟨0, 0, 0, 0, 0⟩]) := by
      subst hW
      exact ownT_lit _ [⟨0, 0, 0, 0, 0⟩] hw1.size (by simp) rfl
    have HW2 := Lib.hid (show w1.heap.size < w2.heap.size by subst hW; simp)
    have HWB := Lib.hid hw1.size
    have hw2 := below_on hw1 hb2
    clear hW hb2 hw1 hx1 x0 c0 c1 c2 c3 c4 c5 c6 c7 c8 c9
    refine (HN.out _ hw2).mono ?_
    rintro e w3 ⟨u, rfl, ho3, hb3⟩
    have hw3 := below_on hw2 hb3
    have HO3 := Lib.hid (show OwnT w3 w.heap.size _ [⟨0, 0, 0, 0, 0⟩] from own_below HO0.out hb3)
    have HGB := Lib.hid (show ∀ g n c, u = .slice (some ⟨g, 0, none⟩) n c → g ≠ w1.heap.size from fun g n c e e2 => by
      have := World.ownsRow.lt ho3 g (by rw [e]; rfl)
      have := HW2.out
      omega)
    have HR3 := Lib.hid (ownA_reads ho3)
    obtain ⟨sp, cap, rfl, _⟩ := ownA_reads ho3
    rw [HNN.out]
    have hs03 := hw3.size
    have HW3 := Lib.hid (show w1.heap.size < w3.heap.size from Nat.lt_of_lt_of_le HW2.out hb3.size)
    clear ho3 hb3 hw2 HO0
    obtain ⟨b0, hb0⟩ : ∃ b0, w1.heap.size = b0 := ⟨_, rfl⟩
    rw [hb0] at HO3 HGB HW3 HWB ⊢
    clear hb0 HW2
    go_wp2_with fail
    go_loopw [6, 20] (fun u i wr => LbR v L w.heap.size b0 w3 u i wr) (fun _ i _ => n - (intOf i).toNat)
    case atStart => exact ⟨0, b0, 1, [⟨0, 0, 0, 0, 0⟩], rfl, Nat.zero_le _, rfl, rfl, .inl rfl, HO3.out, gr_on (only_below (Below.refl w3.heap.size w3) _) (Below.refl _ _)⟩
    case round =>
      obtain ⟨k, gu, cu, D, rfl, hk, hD, rfl, hgu, hown, hgw⟩ := hrel
      rw [HNN.out] at hk
      have HDD := Lib.hid hD
      have HO := Lib.hid hown
      have hdl : D.length ≤ 1000 := by
        have := (lbL_len v (L.take k)).1
        rw [← hD, List.length_take] at this
        omega
      have HGW := Lib.hid hgw
      have HGU := Lib.hid hgu
      have hsw := hgw.size
      clear hD hown HO3 hgu
      by_cases hlt : k < n
      · have hk' : (k : Int) < (n : Int) := by omega
        have hk0 : (0 : Int) ≤ k := by omega
        obtain ⟨y, hy⟩ : ∃ y, L[k]? = some y := ⟨_, List.getElem?_eq_getElem (by rw [HNN.out]; exact hlt)⟩
        have HT := Lib.hid (show lbL v (L.take (k + 1)) = lbS v D y by rw [lb_take hy, ← HDD.out])
        have HK2 := Lib.hid (show k + 1 ≤ L.length by rw [HNN.out]; omega)
        obtain ⟨sp', cp, e, hc⟩ := HR3.out
        injection e with e1 e2 e3
        subst e1 e3
        obtain ⟨g, rfl, hbl, hcell⟩ := hc.resolve_left (by rw [HNN.out]; omega)
        have HAY := Lib.hid (HAV.out y (List.mem_of_getElem? hy))
        have f : ∀ o, wr.cell? ⟨g, o, none⟩ = w3.cell? ⟨g, o, none⟩ := gr_cell hgw hbl (HGB.out g _ _ rfl)
        have r1 : ARow wr g (k * 7) y := by have := hcell k y hy; simpa only [ARow, f] using this
        have hgl : g < wr.heap.size := Nat.lt_of_lt_of_le hbl hsw
        obtain ⟨c0, c1, c2, c3, c4, c5, c6⟩ := id r1
        clear hcell f hy hc e2 hgw
        obtain ⟨q, hq⟩ : ∃ q, sel y.a y.b y.c y.d v 0 = q := ⟨_, rfl⟩
        have HQ := Lib.hid (show cfA v y = q from hq)
        have HC := Lib.hid fun W => CoefOf_any y.a y.b y.c y.d y.n v W
        rw [hq] at HC
        clear hq
        cases h0 : y.k == 0 with
        | false =>
          have hn0 : (y.k != 0) = true := by simpa using h0
          have HE := Lib.hid (show lbL v (L.take (k + 1)) = D by rw [HT.out, lbS_no (.inl h0)])
          go_wp2
          have HO4 := Lib.hid (show OwnT (wr.alloc (.cells #[.int .i64 y.k, .int .i64 y.m, .int .i64 y.a, .int .i64 y.b, .int .i64 y.c, .int .i64 y.d, .int .i64 y.n] 44)) w.heap.size _ D from own_below HO.out (by go_grown))
          have HGW4 := Lib.hid (gr_on HGW.out (show Below wr.heap.size wr (wr.alloc (.cells #[.int .i64 y.k, .int .i64 y.m, .int .i64 y.a, .int .i64 y.b, .int .i64 y.c, .int .i64 y.d, .int .i64 y.n] 44)) by go_grown))
          go_roundw
          case rel => exact ⟨k + 1, gu, cu, D, by go_num, HK2.out, HE.out.symm, rfl, HGU.out, HO4.out, HGW4.out⟩
          case measure => simp [intOf]; omega
        | true =>
          have hn0 : (y.k != 0) = false := by simpa using h0
          go_wp2_with fail
          generalize hW : wr.alloc _ = W4
          have hxA : C7 W4 wr.heap.size y.k y.m y.a y.b y.c y.d y.n := by subst hW; exact (by refine ⟨?_, ?_, ?_, ?_, ?_, ?_, ?_, ?_⟩ <;> first | (simp [go_sem]; done) | (simp; omega))
          have hbW : Below wr.heap.size wr W4 := by subst hW; go_grown
          clear hW
          refine (HC.out _).mono ?_
          rintro e w4 ⟨rfl, hb4'⟩
          have hx4 := c7_on hxA hb4'
          have hb4 := below_on hbW hb4'
          have HGW4 := Lib.hid (gr_on HGW.out hb4)
          have HO4 := Lib.hid (show OwnT w4 w.heap.size _ D from own_below HO.out hb4)
          have hs4 := hb4.size
          clear c0 c1 c2 c3 c4 c5 c6 hb4 hb4' hbW hxA r1
          cases h1 : q == -1 with
          | false =>
            have hn1 : (q != -1) = true := by simpa using h1
            have HE := Lib.hid (show lbL v (L.take (k + 1)) = D by rw [HT.out, lbS_no (.inr (by rw [HQ.out]; exact h1))])
            go_wp2
            go_roundw
            case rel => exact ⟨k + 1, gu, cu, D, by go_num, HK2.out, HE.out.symm, rfl, HGU.out, HO4.out, HGW4.out⟩
            case measure => simp [intOf]; omega
          | true =>
            have hn1 : (q != -1) = false := by simpa using h1
            have HTV := Lib.hid (wo_tv (v := v) HAY.out)
            obtain ⟨t, ht⟩ : ∃ t, wo v y = t := ⟨_, rfl⟩
            rw [ht] at HTV
            have HWO := Lib.hid fun bl W hl => (show Calls Try.prog 56 #[.slice (some ⟨bl, 0, none⟩) 5 5, .int .i64 v] W fun e w' => e = .returned (.slice (some ⟨W.heap.size, 0, none⟩) 5 5) ∧ W.alloc (.cells #[.int .i64 t.a, .int .i64 t.b, .int .i64 t.c, .int .i64 t.d, .int .i64 t.n] 3) = w' from by rw [← ht]; exact without_of y.a y.b y.c y.d y.n v bl W hl hv)
            obtain ⟨s, hs⟩ : ∃ s, D.any (tmE t) = s := ⟨_, rfl⟩
            have HS := Lib.hid (show D.any (tmE (wo v y)) = s by rw [ht]; exact hs)
            have HH := Lib.hid fun W u (hW : RdT W u D) => tcon_any u D t W hW (by omega)
            rw [hs] at HH
            have HTT := Lib.hid ht
            clear ht hs
            obtain ⟨x0, x1, x2, x3, x4, x5, x6, x7⟩ := hx4
            go_wp2_with fail
            refine (multiples_any _ _ _ _ _ _).mono ?_
            rintro e wa ⟨rfl, hwa⟩
            have hca : C5 wa (w4.heap.size + 1) y.a y.b y.c y.d y.n := by subst hwa; exact (by refine ⟨?_, ?_, ?_, ?_, ?_, ?_⟩ <;> first | (simp [go_sem]; done) | (simp; omega))
            have hba : Below w4.heap.size w4 wa := by subst hwa; go_grown
            clear hwa x0 x1 x2 x3 x4 x5 x6 x7
            go_wp2_with fail
            refine (HWO.out _ _ hca).mono ?_
            rintro e wb ⟨rfl, hwb⟩
            have hcb : C5 wb wa.heap.size t.a t.b t.c t.d t.n := by subst hwb; exact (by refine ⟨?_, ?_, ?_, ?_, ?_, ?_⟩ <;> first | (simp [go_sem]; done) | (simp; omega))
            have hbb : Below w4.heap.size w4 wb := below_on hba (by subst hwb; go_grown)
            clear hwb hca hba
            go_wp2_with fail
            refine (term_ok _ _ _ _ _ _ _ hcb HTV.out).mono ?_
            rintro e w5 ⟨rfl, hb5'⟩
            have hb5 := below_on hbb hb5'
            have HGW5 := Lib.hid (gr_on HGW4.out hb5)
            have HO5 := Lib.hid (show OwnT w5 w.heap.size _ D from own_below HO4.out hb5)
            have hs5 := hb5.size
            clear hcb hbb hb5' hb5
            go_wp2_with fail
            generalize hW : w5.alloc _ = w6
            have hb6 : Below w5.heap.size w5 w6 := by subst hW; go_grown
            have hx6 : C5 w6 w5.heap.size t.a t.b t.c t.d t.n := by subst hW; exact (by refine ⟨?_, ?_, ?_, ?_, ?_, ?_⟩ <;> first | (simp [go_sem]; done) | (simp; omega))
            have HGW6 := Lib.hid (gr_on HGW5.out hb6)
            have HO6 := Lib.hid (show OwnT w6 w.heap.size _ D from own_below HO5.out hb6)
            have hs6 := hb6.size
            clear hW hb6
            refine (HH.out _ _ (ownT_reads HO6.out)).mono ?_
            rintro e w7 ⟨rfl, hb7⟩
            have HGW7 := Lib.hid (gr_on HGW6.out hb7)
            have hown7 := own_below (show w6.ownsRow w.heap.size 24 5 _ D.length (TL D) from HO6.out) hb7
            have hx7 := c5_on hx6 hb7
            have hs7 := hb7.size
            clear hb7 hx6
            cases s with
            | true =>
              have HE := Lib.hid (show lbL v (L.take (k + 1)) = D by rw [HT.out, lbS_in HS.out])
              have HO7 := Lib.hid (show OwnT w7 w.heap.size _ D from hown7)
              clear hown7
              go_wp2
              go_roundw
              case rel => exact ⟨k + 1, gu, cu, D, by go_num, HK2.out, HE.out.symm, rfl, HGU.out, HO7.out, HGW7.out⟩
              case measure => simp [intOf]; omega
            | false =>
              have HE := Lib.hid (show lbL v (L.take (k + 1)) = D ++ [t] by rw [HT.out, lbS_out h0 (by rw [HQ.out]; exact h1) HS.out, HTT.out])
              obtain ⟨hi, hz0, hz1, hz2⟩ := HII.out
              obtain ⟨x0, x1, x2, x3, x4, x5⟩ := hx7
              go_wp2_with (at_builtin; refine wpList_append_lies _ rfl _ _ 63 rfl w.heap.size 24 i0 (.agg #[.int .i64 0, .int .i64 0, .int .i64 0, .int .i64 0, .int .i64 0]) 5 40 Try.underlying63 hi hz0 hz1 hz2 rfl (by decide) _ _ _ rfl (hown7.alloc _) ⟨w7.heap.size, 0, none⟩ 1 1 (tcells t) rfl rfl ?c1 ?c2 (by decide) ?c3 ?c4 ?c5 _ rfl ?_)
              case c1 => exact term_news (w := w7) t
              case c2 => intro u hu; exact tl_ints [t] u (by simpa [TL] using hu)
              case c3 => unfold maxLen; omega
              case c4 => omega
              case c5 => simp; omega
              · intro g' cap' w8 hown8 hgrow hlie _
                have hbA : Below w7.heap.size w7 (w7.alloc (.cells (tcells t).toArray 24)) := by go_grown
                have HO8 : Hid (OwnT w8 w.heap.size (.slice (some ⟨g', 0, none⟩) (D ++ [t]).length cap') (D ++ [t])) := by
                  show w8.ownsRow _ _ _ _ _ _
                  rw [tl_app, List.length_append]
                  have e : TL [t] = tcells t := by simp [TL]
                  rw [e]
                  exact hown8
                have HGW8 : Hid (w3.grownBy w8 (some (b0))) := gr_app (gr_on HGW7.out hbA) hgrow HGU.out
                have HGU8 := Lib.hid (show g' = b0 ∨ w3.heap.size ≤ g' by
                  rcases hlie with h | h
                  · have h' : gu = g' := by simpa [Value.ownBlock] using h
                    have := HGU.out
                    omega
                  · right
                    first | omega | (simp at h; omega))
                clear hown7 hown8 hgrow hbA hi hz0 hz1 hz2 x0 x1 x2 x3 x4 x5 hlie
                go_wp2
                go_roundw
                case rel => exact ⟨k + 1, g', cap', D ++ [t], by go_num, HK2.out, HE.out.symm, by simp, HGU8.out, HO8.out, HGW8.out⟩
                case measure => simp [intOf]; omega
      · have hk' : ¬ (k : Int) < (n : Int) := by omega
        obtain rfl : k = n := by omega
        have hDL : D = lbL v L := by rw [HDD.out, ← HNN.out, List.take_length]
        have HE := Lib.hid (show OwnT wr w.heap.size (.slice (some ⟨gu, 0, none⟩) D.length cu) (lbV v h f) by rw [HI.out, ← hDL]; exact HO.out)
        clear hgw hDL
        go_wp2
        go_ret2
        exact ⟨.slice (some ⟨gu, 0, none⟩) D.length cu, rfl, HE.out, grb_below hw3 HGW.out HWB.out⟩

end Go.Proofs.Ytcgolbkpfncgpaa

/- The walk of the law that says that LowerBounds answers as its model does. -/
namespace Go.Proofs.Ytcgolbkpfncgpaa
open Go.RowKit

theorem keep20LowerBounds {W w' : World} {x y : Nat} {h : FH} {s s' : Value} (hx : C10 W x h s) (hy : C10 W y h s') (hB : Below W.heap.size W w') :
    Below W.heap.size W w' ∧ (w'.cell? ⟨x, 0, none⟩ = some (.int .i64 h.k) ∧ w'.cell? ⟨x, 1, none⟩ = some (.int .i64 h.ak) ∧ w'.cell? ⟨x, 2, none⟩ = some (.int .i64 h.am) ∧
    w'.cell? ⟨x, 3, none⟩ = some (.int .i64 h.a) ∧ w'.cell? ⟨x, 4, none⟩ = some (.int .i64 h.b) ∧ w'.cell? ⟨x, 5, none⟩ = some (.int .i64 h.c) ∧ w'.cell? ⟨x, 6, none⟩ = some (.int .i64 h.d) ∧ w'.cell? ⟨x, 7, none⟩ = some (.int .i64 h.n) ∧ w'.cell? ⟨x, 8, none⟩ = some (.int .i64 h.v) ∧ w'.cell? ⟨x, 9, none⟩ = some s) ∧
    (w'.cell? ⟨y, 0, none⟩ = some (.int .i64 h.k) ∧ w'.cell? ⟨y, 1, none⟩ = some (.int .i64 h.ak) ∧ w'.cell? ⟨y, 2, none⟩ = some (.int .i64 h.am) ∧
    w'.cell? ⟨y, 3, none⟩ = some (.int .i64 h.a) ∧ w'.cell? ⟨y, 4, none⟩ = some (.int .i64 h.b) ∧ w'.cell? ⟨y, 5, none⟩ = some (.int .i64 h.c) ∧ w'.cell? ⟨y, 6, none⟩ = some (.int .i64 h.d) ∧ w'.cell? ⟨y, 7, none⟩ = some (.int .i64 h.n) ∧ w'.cell? ⟨y, 8, none⟩ = some (.int .i64 h.v) ∧ w'.cell? ⟨y, 9, none⟩ = some s') :=
  ⟨hB, (c10_on hx hB).2, (c10_on hy hB).2⟩

theorem own_keepsLowerBounds {w w' : World} {B e sz n lo hi : Nat} {v : Value} {xs : List Value} (h : w.ownsRow B e sz v n xs) (hk : Keeps lo hi w w') (hB : hi ≤ B) : w'.ownsRow B e sz v n xs := by
  obtain ⟨h1, h2⟩ := h
  refine ⟨h1, ?_⟩
  rcases h2 with h0 | ⟨g, cap, cur, e0, hb, hg, h3⟩
  · exact .inl h0
  · exact .inr ⟨g, cap, cur, e0, hb, (hk.block g (Array.getElem?_eq_some_iff.1 hg).1 (.inr (by omega))).trans hg, h3⟩

set_option maxRecDepth 100000 in
set_option maxHeartbeats 4000000 in
theorem exactLowerBounds_walk (h : FH) (f : Fo) (w : World) (lo : Nat) (s : Value) (hs : FS w lo f s) (v : Int) :
    Calls Try.prog 7 #[.agg #[.int .i64 h.k, .int .i64 h.ak, .int .i64 h.am, .int .i64 h.a, .int .i64 h.b, .int .i64 h.c, .int .i64 h.d, .int .i64 h.n, .int .i64 h.v, s], .int .i64 v] w fun e w' => e = .returned (.bool true) ∧ Below w.heap.size w w' := by
  have HS := Lib.hid hs
  obtain ⟨sa, sn, sc, rfl⟩ := hs.slice
  clear hs
  by_cases hsz : f.size ≤ 1048576
  · have HZ : Hid (szI f.size 1048576 = ((1048576 - f.size : Nat) : Int)) := szI_pos hsz
    obtain ⟨l, hl⟩ : ∃ l : Nat, 1048576 - f.size = l := ⟨_, rfl⟩
    rw [hl] at HZ
    have hl0 : ¬ (l : Int) < 0 := by omega
    have hlen := lbV_len v h f
    have HSP := Lib.hid fun W lo s hs => specLowerBounds_any v h f W lo s hs
    have HIM := Lib.hid fun W lo s hs => LowerBounds_any v h f W lo s hs
    obtain ⟨L, hL⟩ : ∃ L, lbV v h f = L := ⟨_, rfl⟩
    rw [hL] at HSP HIM hlen
    obtain ⟨ok, hok⟩ : ∃ ok, onB v h f = ok := ⟨_, rfl⟩
    rw [hok] at HSP HIM
    have hbb : (ok != ok) = false := by cases ok <;> rfl
    obtain ⟨N, hN⟩ : ∃ N : Int, 1 + ((L.length * 5 : Nat) : Int) = N := ⟨_, rfl⟩
    have hN0 : 0 ≤ N := by omega
    have hN1 : N ≤ 10000 := by omega
    have HN := Lib.hid hN
    clear hl hL hN hok
    go_enter Try.func7, Try.ntmps7
    go_wp2_with fail
    generalize hW : World.alloc _ _ = W
    have hx : C10 W w.heap.size h (.slice sa sn sc) := by subst hW; exact (by refine ⟨?_, ?_, ?_, ?_, ?_, ?_, ?_, ?_, ?_, ?_, ?_⟩ <;> first | (simp [go_sem]; done) | (simp; omega))
    have hw : Below w.heap.size w W := by subst hW; go_grown
    clear hW
    have HSW := Lib.hid (FS.below hw (Nat.le_refl _) HS.out)
    refine (szF_any h f W lo _ 1048576 (Nat.le_refl _) HSW.out).mono ?_
    rintro e w1 ⟨rfl, hb1⟩
    rw [HZ.out]
    have hw1 := below_on hw hb1
    have hx1 := c10_on hx hb1
    obtain ⟨x0, c0, c1, c2, c3, c4, c5, c6, c7, c8, c9⟩ := id hx1
    have HS1 := Lib.hid (FS.below hw1 (Nat.le_refl _) HS.out)
    clear hx hw hb1
    go_wp2_with fail
    refine (tF_any h f w1 lo _ hsz HS1.out).mono ?_
    rintro e w2 ⟨s2, rfl, hs2, hb2⟩
    have HS2 := Lib.hid hs2
    have hw2 := below_on hw1 hb2
    have hx2 := c10_on hx1 hb2
    clear hs2 c0 c1 c2 c3 c4 c5 c6 c7 c8 c9 x0
    obtain ⟨x0, c0, c1, c2, c3, c4, c5, c6, c7, c8, c9⟩ := id hx2
    clear hx1 hw1 hb2
    go_wp2_with fail
    refine (HSP.out w2 _ _ HS2.out).mono ?_
    rintro e w3 ⟨v0, rfl, ho3, hb3⟩
    have HR0 := Lib.hid (ownT_reads ho3)
    have hw3 := below_on hw2 hb3
    have hx3 := c10_on hx2 hb3
    have HS3 := Lib.hid (FS.below hw3 (Nat.le_refl _) HS.out)
    clear hx2 hw2 hb3 ho3 c0 c1 c2 c3 c4 c5 c6 c7 c8 c9 x0
    obtain ⟨x0, c0, c1, c2, c3, c4, c5, c6, c7, c8, c9⟩ := id hx3
    go_wp2_with fail
    refine (tF_any2 h f w3 lo _ hsz HS3.out).mono ?_
    rintro e w4 ⟨s4, rfl, hs4, hn4, hb4⟩
    obtain ⟨ta, tn, tc, rfl⟩ := hs4.slice
    have HS4 := Lib.hid hs4
    have HN4 := Lib.hid hn4
    have hx4 := c10_on hx3 hb4
    have hs34 := hb4.size
    have HB34 := Lib.hid hb4
    clear hs4 hn4 hb4 c0 c1 c2 c3 c4 c5 c6 c7 c8 c9 x0
    go_wp2_with fail
    generalize hW5 : World.alloc _ _ = W5
    have hb5 : Below w4.heap.size w4 W5 := by subst hW5; go_grown
    have hy5 : C10 W5 w4.heap.size h (.slice ta tn tc) := by subst hW5; exact (by refine ⟨?_, ?_, ?_, ?_, ?_, ?_, ?_, ?_, ?_, ?_, ?_⟩ <;> first | (simp [go_sem]; done) | (simp; omega))
    have hx5 := c10_on hx4 hb5
    have HS5 := Lib.hid (FS.below hb5 (Nat.le_refl _) HS4.out)
    have hs45 := hb5.size
    have hne : w.heap.size < w3.heap.size := hx3.1
    clear hW5 hx4
    refine (HIM.out W5 _ _ HS5.out).mono ?_
    rintro e w6 ⟨v1, rfl, ho6, hb6⟩
    have hb46 := below_on hb5 hb6
    have hs56 := hb6.size
    have HO6 := Lib.hid ho6
    have HB36 := Lib.hid (HB34.out.trans (hb46.mono hs34))
    have hy6 := c10_on hy5 hb6
    clear ho6 hb5 hb6 hx5 hy5
    go_wp2_with fail
    refine (eqTermS_same _ _ L _ (ownT_reads HO6.out) (readsT_on HR0.out HB36.out) (by omega)).mono ?_
    rintro e w7 ⟨rfl, hb7⟩
    have hb47 := below_on hb46 hb7
    have HB37 := Lib.hid (HB34.out.trans (hb47.mono hs34))
    have hw7 := below_on hw3 HB37.out
    have hx7 := c10_on hx3 HB37.out
    have hy7 := c10_on hy6 hb7
    have HO7 := Lib.hid (show OwnT w7 W5.heap.size v1 L from own_below HO6.out hb7)
    have HA7 := Lib.hid (FS.below hb47 (Nat.le_refl _) HS4.out)
    have HS7 := Lib.hid (FS.below hw7 (Nat.le_refl _) HS.out)
    have hs67 := hb7.size
    have HTF := Lib.hid (fun W hW => tF_any h f W lo _ hsz (FS.below (w := w7) hW (Nat.le_refl _) HS7.out))
    have HEQ := Lib.hid (fun W lo' s' hW hs' => eqF_any h f W _ lo' _ s' (FS.below (w := w7) hW (Nat.le_refl _) HA7.out) hs')
    clear hb46 hb7 hy6
    go_wp2_with fail
    refine wp_region_held_drew (S := (fun w' => Below w7.heap.size w7 w' ∧ (w'.cell? ⟨w.heap.size, 0, none⟩ = some (.int .i64 h.k) ∧ w'.cell? ⟨w.heap.size, 1, none⟩ = some (.int .i64 h.ak) ∧ w'.cell? ⟨w.heap.size, 2, none⟩ = some (.int .i64 h.am) ∧ w'.cell? ⟨w.heap.size, 3, none⟩ = some (.int .i64 h.a) ∧ w'.cell? ⟨w.heap.size, 4, none⟩ = some (.int .i64 h.b) ∧ w'.cell? ⟨w.heap.size, 5, none⟩ = some (.int .i64 h.c) ∧ w'.cell? ⟨w.heap.size, 6, none⟩ = some (.int .i64 h.d) ∧ w'.cell? ⟨w.heap.size, 7, none⟩ = some (.int .i64 h.n) ∧ w'.cell? ⟨w.heap.size, 8, none⟩ = some (.int .i64 h.v) ∧ w'.cell? ⟨w.heap.size, 9, none⟩ = some (.slice sa sn sc)) ∧ (w'.cell? ⟨w4.heap.size, 0, none⟩ = some (.int .i64 h.k) ∧ w'.cell? ⟨w4.heap.size, 1, none⟩ = some (.int .i64 h.ak) ∧ w'.cell? ⟨w4.heap.size, 2, none⟩ = some (.int .i64 h.am) ∧ w'.cell? ⟨w4.heap.size, 3, none⟩ = some (.int .i64 h.a) ∧ w'.cell? ⟨w4.heap.size, 4, none⟩ = some (.int .i64 h.b) ∧ w'.cell? ⟨w4.heap.size, 5, none⟩ = some (.int .i64 h.c) ∧ w'.cell? ⟨w4.heap.size, 6, none⟩ = some (.int .i64 h.d) ∧ w'.cell? ⟨w4.heap.size, 7, none⟩ = some (.int .i64 h.n) ∧ w'.cell? ⟨w4.heap.size, 8, none⟩ = some (.int .i64 h.v) ∧ w'.cell? ⟨w4.heap.size, 9, none⟩ = some (.slice ta tn tc)))) (by kernel_rfl) ?_ (fun hHeld => ?_)
    · try dsimp only
      exact keep20LowerBounds hx7 hy7 (by go_grown)
    refine wpAnyH_take (i := 0) (oi := { dst := some 45, op := Go.Op.load 56 (Go.Operand.tmp 8), type := 56, pos := "exact.go:4196", after := #[], guard := none }) (v := ?_) rfl (by kernel_rfl) (by kernel_rfl) (by kernel_rfl) (fun _ _ _ h => h) (Or.inl ⟨by rfl, ?_⟩) (by assumption) ?_
    rotate_left
    · (intro w hSw; (try dsimp only at hSw); first | (go_simp; done) | (go_simp; with_reducible rfl))
    try simp only [Act.put, List.setIfInBounds_toArray, List.set_cons_zero, List.set_cons_succ]
    refine wpAnyH_take (i := 1) (oi := { dst := some 46, op := Go.Op.load 52 (Go.Operand.tmp 2), type := 52, pos := "exact.go:4196", after := #[], guard := none }) (v := ?_) rfl (by kernel_rfl) (by kernel_rfl) (by kernel_rfl) (fun _ _ _ h => h) (Or.inl ⟨by rfl, ?_⟩) (by assumption) ?_
    rotate_left
    · (intro w hSw; (try dsimp only at hSw); first | (go_simp; done) | (go_simp; with_reducible rfl))
    try simp only [Act.put, List.setIfInBounds_toArray, List.set_cons_zero, List.set_cons_succ]
    refine wpAnyH_ready (rs := [2]) (by kernel_rfl) (by simp) ?_
    refine AllReadyH.cons (o := { dst := some 47, op := Go.Op.call { callee := Go.Callee.value (Go.Operand.func 26), args := #[Go.Operand.tmp 46], argTypes := #[52] }, type := 56, pos := "exact.go:4196", after := #[{ on := 1, ground := Go.Ground.data }], guard := none }) rfl (fun K hK => ?_) AllReadyH.nil
    go_simp
    (go_at_call 26; refine (HTF.out _ (by go_grown)).mono ?_; rintro e w8 ⟨s8, rfl, hs8, hb8⟩; have hbb8 := below_on (w := w7) (by go_grown) hb8; have hsb8 : w7.heap.size ≤ w8.heap.size := hbb8.size)
    (try go_wp2_with fail)
    refine hK.out _ _ ?_ (fun hHeld => ?_)
    · try dsimp only
      exact keep20LowerBounds hx7 hy7 (by go_grown)
    clear hK K
    try simp only [Act.put, List.setIfInBounds_toArray, List.set_cons_zero, List.set_cons_succ]
    refine wpAnyH_ready (rs := [3]) (by kernel_rfl) (by simp) ?_
    refine AllReadyH.cons (o := { dst := some 48, op := Go.Op.call { callee := Go.Callee.value (Go.Operand.func 28), args := #[Go.Operand.tmp 45, Go.Operand.tmp 47], argTypes := #[56, 56] }, type := 4, pos := "exact.go:4196", after := #[{ on := 0, ground := Go.Ground.data }, { on := 2, ground := Go.Ground.data }, { on := 2, ground := Go.Ground.chain }], guard := none }) rfl (fun K hK => ?_) AllReadyH.nil
    go_simp
    (go_at_call 28; refine (HEQ.out _ _ _ (by go_grown) hs8).mono ?_; rintro e w9 ⟨rfl, hb9⟩; have hbb9 := below_on hbb8 hb9; have hsb9 : w7.heap.size ≤ w9.heap.size := hbb9.size)
    (try go_wp2_with fail)
    refine hK.out _ _ ?_ (fun hHeld => ?_)
    · try dsimp only
      exact keep20LowerBounds hx7 hy7 (by go_grown)
    clear hK K
    try simp only [Act.put, List.setIfInBounds_toArray, List.set_cons_zero, List.set_cons_succ]
    refine wpAnyH_take (i := 4) (oi := { dst := some 49, op := Go.Op.unOp Go.UnOp.not 4 (Go.Operand.tmp 48), type := 4, pos := "exact.go:4196", after := #[{ on := 3, ground := Go.Ground.data }], guard := none }) (v := ?_) rfl (by kernel_rfl) (by kernel_rfl) (by kernel_rfl) (fun _ _ _ h => h) (Or.inl ⟨by rfl, ?_⟩) (by assumption) ?_
    rotate_left
    · (intro w hSw; (try dsimp only at hSw); first | (go_simp; done) | (go_simp; with_reducible rfl))
    try simp only [Act.put, List.setIfInBounds_toArray, List.set_cons_zero, List.set_cons_succ]
    refine wpAnyH_done (by kernel_rfl) ?_ _
    have hb49 := below_on hb47 hbb9
    have HN9 := Lib.hid (NS.same (fun x _ hx => hb49.block x hx) HN4.out)
    have HO9 := Lib.hid (show OwnT w9 W5.heap.size v1 L from own_below HO7.out hbb9)
    have HB39 := Lib.hid (HB34.out.trans (hb49.mono hs34))
    have hy9 := c10_on hy7 hbb9
    obtain ⟨y0, d0, d1, d2, d3, d4, d5, d6, d7, d8, d9⟩ := id hy9
    have hs49 := hb49.size
    clear hHeld hb8 hb9 hbb8 hbb9 hs8 hb47 hx7 hy7 hw7
    go_wp2_with fail
    refine (mkF_any h f w9 w3.heap.size w4.heap.size _ 1 HN9.out hs49 (by omega) (by omega)).mono ?_
    rintro e w10 ⟨rfl, hk10⟩
    obtain ⟨q, hq⟩ : ∃ q : Int, 1 + ((f.size * 9 : Nat) : Int) = q := ⟨_, rfl⟩
    have hq0 : ¬ q < 0 := by omega
    rw [hq]
    have HB310 := Lib.hid (HB39.out.trans (hk10.below (by have := HB39.out.size; omega)))
    have HO10 := Lib.hid (show OwnT w10 W5.heap.size v1 L from own_keepsLowerBounds HO9.out hk10 hs45)
    have hs510 : W5.heap.size ≤ w10.heap.size := by have := hk10.size; have := hb49.size; omega
    clear hq hk10 y0 d0 d1 d2 d3 d4 d5 d6 d7 d8 d9 hy9 hb49
    go_wp2_with fail
    refine (eqTermS_same _ _ L _ (ownT_reads HO10.out) (readsT_on HR0.out HB310.out) (by omega)).mono ?_
    rintro e w11 ⟨rfl, hb11⟩
    have HO11 := Lib.hid (show OwnT w11 W5.heap.size v1 L from own_below HO10.out hb11)
    have HB311 := Lib.hid (below_on HB310.out hb11)
    have hs511 : W5.heap.size ≤ w11.heap.size := Nat.le_trans hs510 hb11.size
    clear hb11
    go_wp2_with fail
    refine (markTermS_t W5.heap.size _ 1 N L _ HO11.out hs511 (by omega) (by omega) (by omega) HN.out).mono ?_
    rintro e w12 ⟨rfl, ho12, hb12⟩
    have HO12 := Lib.hid ho12
    have HB312 := Lib.hid (HB311.out.trans (hb12.mono (by omega)))
    have hx12 := c10_on hx3 HB312.out
    clear ho12 hb12
    go_wp2_with fail
    refine (heldTermS_t _ 1 N L.length _ (ownT_reads HO12.out) (by omega) (by omega) (by omega) HN.out).mono ?_
    rintro e w' ⟨rfl, rfl⟩
    obtain ⟨x0, c0, c1, c2, c3, c4, c5, c6, c7, c8, c9⟩ := id hx12
    have HS12 := Lib.hid (FS.below (below_on hw3 HB312.out) (Nat.le_refl _) HS.out)
    go_wp2_with fail
    refine (tF_any h f w12 lo _ hsz HS12.out).mono ?_
    rintro e w13 ⟨s13, rfl, hs13, hb13⟩
    have HS13 := Lib.hid hs13
    clear hs13 c0 c1 c2 c3 c4 c5 c6 c7 c8 c9 x0
    go_wp2_with fail
    refine (HIM.out w13 _ _ HS13.out).mono ?_
    rintro e w14 ⟨v2, rfl, ho14, hb14⟩
    have hb1214 := below_on hb13 hb14
    have HR14 := Lib.hid (ownT_reads ho14)
    have HB314 := Lib.hid (below_on HB312.out hb1214)
    have HO14 := Lib.hid (show OwnT w14 W5.heap.size v1 (marksT 1 L.length) from own_below HO12.out hb1214)
    clear ho14 hb14 hb13 hb1214
    go_wp2_with fail
    refine (eqTermS_same _ _ L _ HR14.out (readsT_on HR0.out HB314.out) (by omega)).mono ?_
    rintro e w15 ⟨rfl, hb15⟩
    have HB315 := Lib.hid (below_on HB314.out hb15)
    have HO15 := Lib.hid (show OwnT w15 W5.heap.size v1 (marksT 1 L.length) from own_below HO14.out hb15)
    clear hb15
    go_wp2_with fail
    refine (heldTermS_t _ 1 N L.length _ (ownT_reads HO15.out) (by omega) (by omega) (by omega) HN.out).mono ?_
    rintro e w' ⟨rfl, rfl⟩
    go_wp2
    go_ret
    exact ⟨rfl, below_on hw3 HB315.out⟩
  · have hz : szI f.size 1048576 = -1 := szI_neg (by omega)
    have HZ := Lib.hid hz
    clear hz
    go_enter Try.func7, Try.ntmps7
    go_wp2_with fail
    generalize hW : World.alloc _ _ = W
    have hw : Below w.heap.size w W := by subst hW; go_grown
    clear hW
    have HSW := Lib.hid (FS.below hw (Nat.le_refl _) HS.out)
    refine (szF_any h f W lo _ 1048576 (Nat.le_refl _) HSW.out).mono ?_
    rintro e w1 ⟨rfl, hb1⟩
    rw [HZ.out]
    go_wp2
    go_ret
    exact ⟨rfl, below_on hw hb1⟩

end Go.Proofs.Ytcgolbkpfncgpaa

namespace Go.Proofs.Ytcgolbkpfncgpaa
open Go.ChangeShapes Go.WideShapes Go.ChangeAt Go.RowKit Go.Joins

set_option maxRecDepth 100000 in
theorem fnExactLowerBounds_lifted (os : Os) (started : os.Started) (H : Type) (enc : TypeId × Value → H) :
    ReturnsInHanded {} Try.checked os 7 .any (Rows.fnExactLowerBoundsSpec.pre6 enc Try.prog Try.f7 Rows.fnExactLowerBoundsRow.domain false) (Rows.fnExactLowerBoundsSpec.post enc Try.prog Try.f7 false true false false) := by
  refine returnsInHanded_of_change (C := Try.checked) Try.own started (by kernel_rfl) Try.func7
    (ChangeSpec.witness6 (enc := enc) (C := Try.checked) false ⟨#[], #[.agg #[.int .i64 0, .int .i64 0, .int .i64 0, .int .i64 0, .int .i64 0, .int .i64 0, .int .i64 0, .int .i64 0, .int .i64 0, .slice none 0 0], .int .i64 0], []⟩ 8 (by kernel_rfl) (by kernel_rfl) (by kernel_rfl) (by kernel_rfl)) ?_
  intro W base args ds gs before hval0 hW _ _
  have hval : ∀ (j : Nat) t v, Try.f7.params[j]? = some t → args[j]? = some v → Value.okWide Try.prog W .any base t v := hval0
  have hW' := hW
  obtain ⟨p, q, hA0, hV, rfl, _, _⟩ := hW
  have hA : DataW.TrodAll enc Try.prog W 0 (fun _ => true) true Try.f7.params.toList args.toList ds p := hA0
  rw [Try.params7] at hA hval
  obtain ⟨v0, v1, d0, d1, p0, p1, rfl, rfl, rfl, h0, h1⟩ := trodAll_two hA
  obtain ⟨rfl, rfl⟩ := trodVars_none hV
  obtain ⟨k0, f0, s0, rfl, hf0⟩ := open_formula Try.underlying52 (by kernel_rfl) rfl rfl rfl rfl rfl rfl rfl rfl (by kernel_rfl) (by kernel_rfl) Try.underlying42 (by kernel_rfl) rfl rfl rfl rfl rfl rfl Try.underlying37 (by kernel_rfl) (by kernel_rfl) rfl Try.underlying3 (by kernel_rfl) Try.underlying50 (hval 0 52 v0 rfl rfl) h0
  obtain ⟨i1, rfl, rfl, rfl, _⟩ := open_int Try.underlying3 (hval 1 3 v1 rfl rfl) h1
  clear hA0 hval0
  refine (exactLowerBounds_walk k0 f0 W _ s0 hf0 i1).mono fun e W' ⟨he, hb⟩ => ⟨_, he, ?_⟩
  exact law_post Try.laidOut (by kernel_rfl) rfl rfl Try.underlying4 hW' rfl hb

theorem fnExactLowerBounds_holds : Rows.FnExactLowerBoundsSaid :=
  OpenClaim.holds_of_wide 7 Try.f7 rfl rfl rfl rfl rfl rfl rfl ⟨rfl, rfl, rfl, rfl, rfl⟩ rfl rfl rfl rfl rfl (by kernel_rfl) Try.func7 (by show joinedFacts Try.prog 7 Try.f7 Rows.fnExactLowerBoundsSpec Rows.fnExactLowerBoundsRow = true; unfold joinedFacts; rw [Try.mayEnterT, Try.liftsFinalF, Try.makeC]; kernel_rfl)
    (of_decide_eq_true (by kernel_rfl)) (by unfold Func.isWrapper; rw [if_neg (by decide +kernel)]; exact ⟨rfl, rfl⟩)
    (fun os started H enc _ => fnExactLowerBounds_lifted os started H enc)

end Go.Proofs.Ytcgolbkpfncgpaa
