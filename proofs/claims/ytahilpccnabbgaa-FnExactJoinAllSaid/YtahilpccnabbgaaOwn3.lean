/- Elements of several cells put behind a list that a call has made: where the new list lies; an append as a drawn region meets it. -/
import Derived.Test.YtahilpccnabbgaaOwn2
namespace Go.Proofs.Ytahilpccnabbgaa
open Go.RowKit

theorem append_row {P : Program} {w : World} {base t ty e sz : Nat} {i : TypeInfo} {z : Value} {bytes : Nat} (ht : P.underlying t = some (.slice e)) (hi : P.info? e = some i) (hz : i.zero = some z) (hsize : i.size = sz) (hby : i.bytes = bytes) (hzs : z.cells.size = sz) (hsz : 0 < sz)
    {v : Value} {n : Nat} {xs : List Value} (hown : w.ownsRow base e sz v n xs) {a : Addr} {row : List Value} (hrow : row.length = sz) (hnews : ∀ j u, row[j]? = some u → w.cell? (a.add j) = some u) (h1 : ∀ u ∈ row, u.oneCell' = true) (hn : n ≤ 1048576) (hbt : bytes ≤ 1024) (hbase : base ≤ w.heap.size) :
    ∃ v' w', (Builtin.append_ #[t, t] ty #[v, .slice (some a) 1 1]).run P w = .ok v' w' ∧ w'.ownsRow base e sz v' (n + 1) (xs ++ row) ∧ w.grownBy w' v.ownBlock ∧ (v'.ownBlock = v.ownBlock ∨ v'.ownBlock = some w.heap.size) := by
  have hbb : (n + 1) * bytes ≤ 140737488355328 := Nat.le_trans (Nat.mul_le_mul (by omega : n + 1 ≤ 1048577) hbt) (by omega)
  have hm : n + 1 ≤ maxLen := by unfold maxLen; omega
  have hrow1 : row.length = 1 * sz := by omega
  obtain ⟨v', w', hr, h2, h3, _⟩ := run_append_own (P := P) w base t ty e i z sz bytes ht hi hz hsize hby hzs hsz v n xs hown a 1 1 row hrow1 hnews h1 hm hbb hbase
  refine ⟨v', w', hr, h2, h3, ?_⟩
  rcases hown.2 with ⟨rfl, rfl⟩ | ⟨g, cap, cur, rfl, _, hg, hnc, _, hcs, _⟩
  · have h := run_append_nil (P := P) w t ty e i z ht hi hz a 1 1 row (by rw [hsize]; exact hrow1) hnews (by omega) (by omega) (by rw [hby]; omega)
    rw [h] at hr
    injection hr with e1 e2
    exact .inr (by rw [← e1]; rfl)
  · by_cases hroom : n + 1 ≤ cap
    · have h := run_append_room (P := P) w t ty e i ht hi g n cap cur hg a 1 1 row (by rw [hsize]; exact hrow1) hnews h1 hroom (by rw [hsize, hcs, hrow, ← Nat.succ_mul]; exact Nat.mul_le_mul_right sz hroom)
      rw [h] at hr
      injection hr with e1 e2
      exact .inl (by rw [← e1]; rfl)
    · have holds : ∀ j u, xs[j]? = some u → w.cell? ((⟨g, 0, none⟩ : Addr).add j) = some u := hown.cells (g := g) rfl
      have h := run_append_grow (P := P) w t ty e i z ht hi hz ⟨g, 0, none⟩ n cap xs (by rw [hsize]; exact hown.1) holds a 1 1 row (by rw [hsize]; exact hrow1) hnews (by omega) (by have := hm; unfold maxLen at this; omega) (growslice_fits (by omega) (by rw [hby]; exact hbb))
      rw [h] at hr
      injection hr with e1 e2
      exact .inr (by rw [← e1]; rfl)

theorem oper_append {P : Program} {w w' : World} {o : Oper} {a : Act} {K : Act → World → Prop} {Q : Exit → Act → World → Prop} (s x : Operand) (t : TypeId)
    (ho : o.op = .call { callee := .builtin .append, args := #[s, x], argTypes := #[t, t] }) {v y v' : Value} (hs : a.eval s = v) (hx : a.eval x = y)
    (hr : (Builtin.append_ #[t, t] o.type #[v, y]).run P w = .ok v' w') (h : K (a.put o.dst v') w') : Oper.wp P o a w K Q := by
  unfold Oper.wp execOp
  simp only [ho, resolve, invoke, builtin, Sem.run_bind, Sem.run_pure, Result.andThen_ok, List.map_toArray, List.map_cons, List.map_nil, hs, hx, hr]
  exact h

end Go.Proofs.Ytahilpccnabbgaa
