/- Toward the contract of formulaOf: a formula put behind a list of formulas. -/
import Derived.Test.YtahilpccnabbgaaOwnG
import Derived.Test.YtahilpccnabbgaaOwn3
import Derived.Test.YtahilpccnabbgaaSepM
import Derived.Test.YtahilpccnabbgaaFormR
namespace Go.Proofs.Ytahilpccnabbgaa
open Go.RowKit

def FoT (h : FH) (f : Fo) (w : World) (e : Ending) (w' : World) : Prop := ∃ s, e = .returned (.agg #[.int .i64 h.k, .int .i64 h.ak, .int .i64 h.am, .int .i64 h.a, .int .i64 h.b, .int .i64 h.c, .int .i64 h.d, .int .i64 h.n, .int .i64 h.v, s]) ∧ SF w' w.heap.size w'.heap.size f s ∧ Below w.heap.size w w'
def FoAt (x : Value) (h : FH) (f : Fo) : Prop := ∀ w, Calls Try.prog 89 #[x] w (FoT h f w)

/-- The cells of a formula. -/
def fcel (h : FH) (s : Value) : List Value := [.int .i64 h.k, .int .i64 h.ak, .int .i64 h.am, .int .i64 h.a, .int .i64 h.b, .int .i64 h.c, .int .i64 h.d, .int .i64 h.n, .int .i64 h.v, s]
theorem form_news {w : World} (h : FH) (s : Value) : ∀ j u, (fcel h s)[j]? = some u → (w.alloc (.cells #[.int .i64 h.k, .int .i64 h.ak, .int .i64 h.am, .int .i64 h.a, .int .i64 h.b, .int .i64 h.c, .int .i64 h.d, .int .i64 h.n, .int .i64 h.v, s] 30)).cell? ((⟨w.heap.size, 0, none⟩ : Addr).add j) = some u := by
  intro j u hj
  match j, hj with
  | 0, hj | 1, hj | 2, hj | 3, hj | 4, hj | 5, hj | 6, hj | 7, hj | 8, hj | 9, hj => simp [fcel] at hj; subst hj; simp [Addr.add]
  | j + 10, hj => simp [fcel] at hj
theorem fo_app (h1 : FH) (sa : Option Addr) (sn sc : Nat) {w : World} {base n : Nat} {v : Value} {xs : List Value} (hb : base ≤ w.heap.size) (hn : n ≤ 1048576) (hown : w.ownsRow base 30 10 v n xs) :
    ∃ v1 w1, (Builtin.append_ #[28, 28] 28 #[v, .slice (some ⟨w.heap.size, 0, none⟩) 1 1]).run Try.prog (w.alloc (.cells #[.int .i64 h1.k, .int .i64 h1.ak, .int .i64 h1.am, .int .i64 h1.a, .int .i64 h1.b, .int .i64 h1.c, .int .i64 h1.d, .int .i64 h1.n, .int .i64 h1.v, .slice sa sn sc] 30)) = .ok v1 w1 ∧ w1.ownsRow base 30 10 v1 (n + 1) (xs ++ fcel h1 (.slice sa sn sc)) ∧ (w.alloc (.cells #[.int .i64 h1.k, .int .i64 h1.ak, .int .i64 h1.am, .int .i64 h1.a, .int .i64 h1.b, .int .i64 h1.c, .int .i64 h1.d, .int .i64 h1.n, .int .i64 h1.v, .slice sa sn sc] 30)).grownBy w1 v.ownBlock ∧ (v1.ownBlock = v.ownBlock ∨ v1.ownBlock = some (w.heap.size + 1)) := by
  obtain ⟨i0, hi, hz0, hz1, hz2⟩ := info_parts Try.infoForm
  obtain ⟨v1, w1, hr, ho, hg, hw⟩ := append_row (P := Try.prog) (ty := 28) Try.underlying28 hi hz0 hz1 hz2 rfl (by decide) (hown.alloc (.cells #[.int .i64 h1.k, .int .i64 h1.ak, .int .i64 h1.am, .int .i64 h1.a, .int .i64 h1.b, .int .i64 h1.c, .int .i64 h1.d, .int .i64 h1.n, .int .i64 h1.v, .slice sa sn sc] 30)) (a := ⟨w.heap.size, 0, none⟩) (row := fcel h1 (.slice sa sn sc)) rfl (form_news h1 _) (by intro u hu; simp only [fcel, List.mem_cons, List.not_mem_nil, or_false] at hu; rcases hu with rfl | rfl | rfl | rfl | rfl | rfl | rfl | rfl | rfl | rfl <;> rfl) hn (by omega) (by simp; omega)
  exact ⟨v1, w1, hr, ho, hg, by simpa using hw⟩

theorem fo_first (h1 : FH) (sa : Option Addr) (sn sc : Nat) (w : World) :
    ∃ g cap w1, (Builtin.append_ #[28, 28] 28 #[.slice none 0 0, .slice (some ⟨w.heap.size, 0, none⟩) 1 1]).run Try.prog (w.alloc (.cells #[.int .i64 h1.k, .int .i64 h1.ak, .int .i64 h1.am, .int .i64 h1.a, .int .i64 h1.b, .int .i64 h1.c, .int .i64 h1.d, .int .i64 h1.n, .int .i64 h1.v, .slice sa sn sc] 30)) = .ok (.slice (some ⟨g, 0, none⟩) 1 cap) w1 ∧ w1.ownsRow w.heap.size 30 10 (.slice (some ⟨g, 0, none⟩) 1 cap) 1 (fcel h1 (.slice sa sn sc)) ∧ Below w.heap.size w w1 := by
  have hown : w.ownsRow w.heap.size 30 10 (.slice none 0 0) 0 [] := World.ownsRow_nil _ _ _ _
  obtain ⟨v1, w1, hr, ho, hg, _⟩ := fo_app h1 sa sn sc (Nat.le_refl _) (Nat.zero_le _) hown
  have hb : Below w.heap.size w w1 := grown_below3 (by go_grown) (hown.alloc _) (Nat.le_refl _) hg
  have ho' : w1.ownsRow w.heap.size 30 10 v1 1 (fcel h1 (.slice sa sn sc)) := by simpa using ho
  obtain ⟨g, cap, rfl⟩ := own_some ho' (fun e => by rw [e] at ho'; rcases ho'.2 with ⟨_, h0⟩ | ⟨g, cap, cur, e0, _⟩ <;> simp_all)
  exact ⟨g, cap, w1, hr, ho', hb⟩

theorem SF.slice {w : World} {lo hi : Nat} {f : Fo} {s : Value} (h : SF w lo hi f s) : ∃ a n c, s = .slice a n c := by
  rcases h with ⟨_, x, cap, e, _⟩ | ⟨_, b', cap, e, _⟩
  · exact ⟨_, _, _, e⟩
  · exact ⟨_, _, _, e⟩

/-- One formula in a new list. -/
theorem sf_one {w : World} {B l g cap : Nat} {h1 : FH} {f1 : Fo} {s : Value} (ho : w.ownsRow B 30 10 (.slice (some ⟨g, 0, none⟩) 1 cap) 1 (fcel h1 s)) (hs : SF w l B f1 s) (hl : l ≤ B) : SF w l w.heap.size (.cons h1 f1 .nil) (.slice (some ⟨g, 0, none⟩) 1 cap) := by
  have hlt := ho.lt g rfl
  have hc : ∀ j u, (fcel h1 s)[j]? = some u → w.cell? ⟨g, j, none⟩ = some u := by
    intro j u hj
    have hj' : j < 10 := by have := (List.getElem?_eq_some_iff.1 hj).1; simpa [fcel] using this
    exact (ho.cellAt j (by omega)).trans hj
  have hcap : 1 ≤ cap ∧ cap ≤ maxLen := by
    rcases ho.2 with ⟨e, _⟩ | ⟨g', cap', cur, e, _, _, h1, h2, _⟩
    · simp at e
    · injection e with _ _ e3
      subst e3
      exact ⟨h1, h2⟩
  refine .inr ⟨Nat.one_pos, g, cap, rfl, hcap.1, hcap.2, by omega, hlt.2, fun o => ho.frozenAt o, l, B, Nat.le_refl _, hl, by omega, .inr hlt.1, ⟨s, ?_, hs⟩, trivial⟩
  exact ⟨hc 0 _ rfl, hc 1 _ rfl, hc 2 _ rfl, hc 3 _ rfl, hc 4 _ rfl, hc 5 _ rfl, hc 6 _ rfl, hc 7 _ rfl, hc 8 _ rfl, hc 9 _ rfl⟩

end Go.Proofs.Ytahilpccnabbgaa
