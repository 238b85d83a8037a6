/- The text of a system, of the program and of the model. -/
import Derived.Test.YtbppcpaodfjpkaaDoorSyA
import Derived.Test.YtbppcpaodfjpkaaDoorTxE
import Derived.Test.YtbppcpaodfjpkaaDoorJnT
import Derived.Lib.Join
namespace Go.Proofs.YtbppcpaodfjpkaaDoor
open Go.RowKit

theorem jn_snoc {xs : List (List UInt8)} (y sep : List UInt8) (h : xs ≠ []) : Lib.join (xs ++ [y]) sep = Lib.join xs sep ++ (sep ++ y) := by
  cases xs with
  | nil => exact absurd rfl h
  | cons x r => rw [List.cons_append, Lib.join_cons, Lib.join_cons]; simp [Lib.joinTail, List.append_assoc]
theorem jn_len {K : Nat} (sep : List UInt8) : ∀ xs : List (List UInt8), (∀ x ∈ xs, x.length ≤ K) → (Lib.join xs sep).length ≤ (K + sep.length) * xs.length
  | [], _ => by simp [Lib.join_nil]
  | x :: r, h => by
    have : ∀ r : List (List UInt8), (∀ x ∈ r, x.length ≤ K) → (Lib.joinTail sep r).length ≤ (K + sep.length) * r.length := by
      intro r
      induction r with
      | nil => intro _; simp [Lib.joinTail]
      | cons y r ih =>
        intro h
        have h1 := ih (fun x hx => h x (List.mem_cons_of_mem _ hx))
        have h2 := h y (List.mem_cons_self ..)
        simp only [Lib.joinTail, List.map_cons, List.flatten_cons, List.length_append, List.length_cons, Nat.mul_succ] at h1 ⊢
        omega
    have h1 := this r (fun x hx => h x (List.mem_cons_of_mem _ hx))
    have h2 := h x (List.mem_cons_self ..)
    rw [Lib.join_cons, List.length_append, List.length_cons, Nat.mul_succ]
    omega

def taX (x : AtD) : List UInt8 := taL x.k x.m x.a x.b x.c x.d x.n
def jnT (L : List AtD) : List UInt8 := Lib.join (L.map taX) [32]
def fsyT (L : List AtD) : List UInt8 := if syB L = true then (if L = [] then [45] else jnT L) else []
theorem ta_len (x : AtD) : (taX x).length ≤ 140 := by
  unfold taX taL
  have h := tf_len x.a x.b x.c x.d x.n
  split
  · rename_i hv
    have hm := (avB_cases hv).1
    have h2 : (Lib.itoa x.m).length ≤ 21 := Lib.itoa_length_le x.m (by omega) (by omega)
    split
    · simp; omega
    · split
      · simp; omega
      · split <;> simp <;> omega
  · simp
theorem ta_ne {x : AtD} (h : avF x = true) : taX x ≠ [] := by
  unfold taX taL
  rw [if_pos (show avB x.k x.m x.a x.b x.c x.d x.n = true from h)]
  split
  · simp
  · split
    · simp
    · split <;> simp
theorem jnT_len (L : List AtD) : (jnT L).length ≤ 141 * L.length := by
  have := jn_len (K := 140) [32] (L.map taX) (fun x hx => by obtain ⟨y, _, rfl⟩ := List.mem_map.1 hx; exact ta_len y)
  simpa [jnT] using this
theorem jnT_snoc {L : List AtD} {k : Nat} {y : AtD} (h : L[k]? = some y) (hk : 0 < k) : jnT (L.take (k + 1)) = jnT (L.take k) ++ (32 :: taX y) := by
  unfold jnT
  rw [take_snoc h, List.map_append, List.map_cons, List.map_nil, jn_snoc _ _ (by
    have hl := (List.getElem?_eq_some_iff.1 h).1
    intro e
    have := congrArg List.length e
    rw [List.length_map, List.length_take, List.length_nil] at this
    omega)]
  rfl
theorem jnT_one {L : List AtD} {y : AtD} (h : L[0]? = some y) : jnT (L.take 1) = taX y := by
  have := take_snoc h
  rw [show (0 + 1) = 1 from rfl] at this
  unfold jnT
  rw [this]
  simp [Lib.join_one]
theorem jnT_ne {L : List AtD} (h : L ≠ []) (hv : ∀ x ∈ L, avF x = true) : jnT L ≠ [] := by
  cases L with
  | nil => exact absurd rfl h
  | cons x r =>
    unfold jnT
    rw [List.map_cons, Lib.join_cons]
    intro e
    exact ta_ne (hv x (List.mem_cons_self ..)) (List.append_eq_nil_iff.1 e).1
theorem sy_av {L : List AtD} (h : syB L = true) : ∀ x ∈ L, avF x = true := fun x hx => by
  unfold syB at h
  rw [Bool.and_eq_true] at h
  exact s1_av (List.all_eq_true.1 h.1 x hx)
theorem sy_len {L : List AtD} (h : syB L = true) : L.length ≤ 40 := by
  unfold syB at h
  rw [Bool.and_eq_true, decide_eq_true_eq] at h
  exact h.2

def CxR (L : List AtD) (n : Nat) (w : World) (v i : Value) (wr : World) : Prop :=
  ∃ k : Nat, i = .int .i64 k ∧ k ≤ n ∧ OwnT wr w.heap.size v ((L.take k).map taX) ∧ Below w.heap.size w wr

set_option maxHeartbeats 2000000 in
theorem clauseText_any (u : Value) (L : List AtD) (w : World) (h : RdA w u L) (hne : L ≠ []) (hlen : L.length ≤ 1000) (ht : Tab w) :
    Calls Tryd.prog 34 #[u] w fun e w' => e = .returned (.string (bs (jnT L))) ∧ Below w.heap.size w w' := by
  obtain ⟨i0, hi, hz0, hz1, hz2⟩ := info_parts Tryd.infoStr
  obtain ⟨sp, cap, rfl, hc⟩ := h
  obtain ⟨n, hn⟩ : ∃ n, L.length = n := ⟨_, rfl⟩
  have hn0 : ¬ n = 0 := fun e => hne (List.length_eq_zero_iff.1 (hn.trans e))
  have hq0 : ((n : Int) == 0) = false := by rw [beq_eq_false_iff_ne]; omega
  have HJ := Lib.hid (fun W v (hv : OwnT W w.heap.size v (L.map taX)) => join_is v w.heap.size (L.map taX) [32] W hv (by simpa using hne) (by rw [List.length_map]; omega) (by have := jnT_len L; unfold jnT at this; omega))
  have HN := Lib.hid hn
  have HC := Lib.hid hc
  have HST := Lib.hid (show CxR L n w (.slice none 0 0) (.int .i64 0) w from ⟨0, rfl, Nat.zero_le _, ⟨rfl, .inl ⟨rfl, rfl⟩⟩, Below.refl _ _⟩)
  have h32 : ({ data := #[32] } : ByteArray) = bs [32] := rfl
  rw [hn] at hlen ⊢
  have HT := Lib.hid ht
  clear hn hc hne ht
  go_enter Tryd.func34, Tryd.ntmps34
  go_wp2
  go_loopw [3, 14] (fun v i wr => CxR L n w v i wr) (fun _ i _ => n - (intOf i).toNat)
  case atStart => exact HST.out
  case round =>
    obtain ⟨k, rfl, hk, hown, hbw⟩ := hrel
    clear HST
    have HB := Lib.hid hbw
    have HO := Lib.hid hown
    by_cases hlt : k < n
    · have hk' : (k : Int) < (n : Int) := by omega
      obtain ⟨y, hy⟩ : ∃ y, L[k]? = some y := ⟨_, List.getElem?_eq_getElem (by rw [HN.out]; exact hlt)⟩
      obtain ⟨b, rfl, hbl, hcell⟩ := HC.out.resolve_left (by rw [HN.out]; omega)
      have f : ∀ o, wr.cell? ⟨b, o, none⟩ = w.cell? ⟨b, o, none⟩ := fun o => hbw.cell (p := ⟨b, o, none⟩) hbl
      have r1 : ARow wr b (k * 7) y := by have := hcell k y hy; simpa only [ARow, f] using this
      obtain ⟨c0, c1, c2, c3, c4, c5, c6⟩ := r1
      have HX := Lib.hid (show (L.take (k + 1)).map taX = (L.take k).map taX ++ [taX y] by rw [take_snoc hy, List.map_append]; rfl)
      have HF := Lib.hid (fun W (hW : Tab W) => pFormatAtom_any y.k y.m y.a y.b y.c y.d y.n W hW)
      obtain ⟨T, hT⟩ : ∃ T, taX y = T := ⟨_, rfl⟩
      rw [show taL y.k y.m y.a y.b y.c y.d y.n = T from hT] at HF
      rw [hT] at HX
      obtain ⟨P, hP⟩ : ∃ P, (L.take k).map taX = P := ⟨_, rfl⟩
      have hPl : P.length ≤ 1000 := by rw [← hP]; simp; omega
      rw [hP] at HX HO
      clear hcell f hy hbw hown hT hP
      go_wp2_with fail
      generalize hW : World.alloc _ _ = W
      have hw : Below wr.heap.size wr W := by subst hW; go_grown
      have hx : C7 W wr.heap.size y.k y.m y.a y.b y.c y.d y.n := by subst hW; exact (by refine ⟨?_, ?_, ?_, ?_, ?_, ?_, ?_, ?_⟩ <;> first | (simp [go_sem]; done) | (simp; omega))
      clear hW c0 c1 c2 c3 c4 c5 c6
      obtain ⟨x0, c0, c1, c2, c3, c4, c5, c6⟩ := hx
      refine (HF.out _ (tab_on HT.out (below_on HB.out hw))).mono ?_
      rintro e w3 ⟨rfl, hb3⟩
      have hw3 := below_on hw hb3
      have hown3 := own_below HO.out hw3
      have HB3 := Lib.hid (below_on HB.out hw3)
      have hs3 : w.heap.size ≤ w3.heap.size := HB3.out.size
      clear x0 c0 c1 c2 c3 c4 c5 c6 hw hb3 hw3
      go_wp2_with (at_builtin; refine wpList_append_own _ rfl _ _ 66 rfl w.heap.size 9 i0 (.string ⟨#[]⟩) 1 16 Tryd.underlying66 hi hz0 hz1 hz2 rfl (by decide) _ _ _ rfl (hown3.alloc _) ⟨w3.heap.size, 0, none⟩ 1 1 [.string (bs T)] rfl rfl ?c1 ?c2 ?c3 ?c4 ?c5 ?_)
      case c1 =>
        intro j u hj
        match j, hj with
        | 0, hj => simp at hj; subst hj; simp [Addr.add]
      case c2 => intro u hu; simp at hu; subst hu; rfl
      case c3 => unfold maxLen; omega
      case c4 => omega
      case c5 => simp; omega
      · intro v' w4 hown4 hgrow hnone
        have hbA : Below w3.heap.size w3 (w3.alloc (.cells #[.string (bs T)] 9)) := by go_grown
        have hownA := own_below hown3 hbA
        have hlow : Below w.heap.size w3 w4 := (hbA.mono hs3).trans (grown_lowT hownA (Nat.le_refl _) (by have := hbA.size; omega) hgrow)
        have HN4 : Hid (OwnT w4 w.heap.size v' (P ++ [T])) := by
          show w4.ownsRow _ _ _ _ _ _
          simpa [stV] using hown4
        have HB4 := Lib.hid (HB3.out.trans hlow)
        clear hown3 hown4 hgrow hbA hownA hlow hnone
        go_wp2
        go_roundw
        case rel => exact ⟨k + 1, by go_num, by omega, by rw [HX.out]; exact HN4.out, HB4.out⟩
        case measure => simp [intOf]; omega
    · have hk' : ¬ (k : Int) < (n : Int) := by omega
      obtain rfl : k = n := by omega
      rw [show L.take k = L from List.take_of_length_le (by rw [HN.out]; exact Nat.le_refl _)] at HO
      clear hown
      go_wp2_with fail
      refine (HJ.out _ _ HO.out).mono ?_
      rintro e w3 ⟨rfl, hb3⟩
      go_wp2
      go_ret
      exact ⟨rfl, below_on hbw hb3⟩

end Go.Proofs.YtbppcpaodfjpkaaDoor
