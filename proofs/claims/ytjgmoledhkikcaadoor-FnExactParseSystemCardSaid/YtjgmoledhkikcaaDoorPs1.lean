/- Several texts in one: PsA PsB LGParseSystem. -/
import Derived.Test.YtjgmoledhkikcaaDoorSp1
import Derived.Test.YtjgmoledhkikcaaDoorAxQ
import Derived.Test.YtjgmoledhkikcaaDoorShelf
import Derived.Test.YtjgmoledhkikcaaDoorAxS
import Derived.Test.YtjgmoledhkikcaaDoorSyG
import Derived.Test.YtjgmoledhkikcaaDoorOwn2
import Derived.Laws.AppendOwn

/- ParseSystem of the program. -/
namespace Go.Proofs.YtjgmoledhkikcaaDoor
open Go.RowKit

/-- What ParseSystem answers. -/
def PsT (s : List UInt8) (w : World) (e : Ending) (w' : World) : Prop :=
  ∃ v L ok, e = .returned (.tuple #[v, .bool ok]) ∧ OwnA w' w.heap.size v L ∧ Below w.heap.size w w' ∧ L.length ≤ 41 ∧ (ok = true → IsSy s L) ∧ (ok = false → L = [] ∧ ∀ M, ¬ IsSy s M)

/-- The library's greatest length lies where it was laid. -/
def MaxL (w : World) : Prop := ∃ m, w.cell? ⟨0, 0, none⟩ = some (.int .i64 m)
theorem maxL_on {w w' : World} (h : MaxL w) (hb : Below w.heap.size w w') : MaxL w' := by
  obtain ⟨m, hm⟩ := h
  exact ⟨m, (hb.cell (p := ⟨0, 0, none⟩) (World.block_lt_of_cell? w _ hm)).trans hm⟩

theorem acells_oneS (x : AtD) : ∀ u ∈ acells x, u.oneCell' = true := by
  intro u hu
  simp only [acells, List.mem_cons, List.not_mem_nil, or_false] at hu
  rcases hu with rfl | rfl | rfl | rfl | rfl | rfl | rfl <;> rfl
theorem atom_newsS {w : World} (x : AtD) : ∀ j u, (acells x)[j]? = some u → (w.alloc (.cells (acells x).toArray 38)).cell? ((⟨w.heap.size, 0, none⟩ : Addr).add j) = some u := by
  intro j u hj
  match j, hj with
  | 0, hj => simp [acells] at hj; subst hj; simp [Addr.add, acells]
  | 1, hj => simp [acells] at hj; subst hj; simp [Addr.add, acells]
  | 2, hj => simp [acells] at hj; subst hj; simp [Addr.add, acells]
  | 3, hj => simp [acells] at hj; subst hj; simp [Addr.add, acells]
  | 4, hj => simp [acells] at hj; subst hj; simp [Addr.add, acells]
  | 5, hj => simp [acells] at hj; subst hj; simp [Addr.add, acells]
  | 6, hj => simp [acells] at hj; subst hj; simp [Addr.add, acells]
  | j + 7, hj => simp [acells] at hj
theorem grown_lowS {W W' : World} {v : Value} {B e size n : Nat} {xs : List Value} (hown : W.ownsRow B e size v n xs) {C : Nat} (hC : C ≤ B) (hCW : C ≤ W.heap.size) (hg : W.grownBy W' v.ownBlock) : Below C W W' := by
  refine ⟨hg.os, hg.tape, hg.output, hg.size, fun i hi => hg.block i (by omega) ?_⟩
  intro e
  rcases hown.2 with ⟨rfl, _⟩ | ⟨g, cap, cur, rfl, hbg, _⟩
  · simp [Value.ownBlock] at e
  · simp [Value.ownBlock] at e; omega
theorem take_snocS {α : Type} {L : List α} {k : Nat} {x : α} (h : L[k]? = some x) : L.take (k + 1) = L.take k ++ [x] := by
  rw [List.take_add_one, h]; rfl

theorem splitB_ws (k : Nat) (s : List UInt8) : Lib.splitB { data := #[32] } 0 k (bs s) = (wsK 32 k s).map bs := by
  have h := Lib.splitB_data { data := #[32] } 0 k (bs s)
  rw [show ({ data := #[32] } : ByteArray).data.toList = [32] from rfl, bs_data, splitK_ws] at h
  have h2 := congrArg (List.map bs) h
  rw [List.map_map] at h2
  rw [← h2]
  conv => lhs; rw [← List.map_id (Lib.splitB { data := #[32] } 0 k (bs s))]
  apply List.map_congr_left
  intro x _
  exact (Lib.mk_data x).symm
theorem wsK_le (c : UInt8) : ∀ (k : Nat) (s : List UInt8), ∀ x ∈ wsK c k s, x.length ≤ s.length
  | 0, s, x, h => by simp [wsK] at h; subst h; exact Nat.le_refl _
  | k + 1, s, x, h => by
    simp only [wsK] at h
    cases hs : spC c s with
    | none => rw [hs] at h; simp at h; subst h; exact Nat.le_refl _
    | some q =>
      obtain ⟨a, b⟩ := q
      rw [hs] at h
      obtain ⟨he, _⟩ := spC_some hs
      have hl : s.length = a.length + b.length + 1 := by rw [he]; simp; omega
      rcases List.mem_cons.1 h with rfl | h
      · omega
      · have := wsK_le c k b x h; omega
theorem wsK_len (c : UInt8) : ∀ (k : Nat) (s : List UInt8), (wsK c k s).length ≤ k + 1
  | 0, s => by simp [wsK]
  | k + 1, s => by
    simp only [wsK]
    cases hs : spC c s with
    | none => simp
    | some q => have := wsK_len c k q.2; simp; exact this
theorem rdL_snoc {ws : List (List UInt8)} {k : Nat} {T : List UInt8} (h : ws[k]? = some T) : rdL (ws.take (k + 1)) = rdL (ws.take k) ++ [(paT T).1] := by
  rw [take_snocS h]
  simp [rdL]
theorem not_sy {s : List UInt8} {k : Nat} (hd : s ≠ [45]) (hk : ∀ M, IsSy s M → M.length ≤ k + 1) (h : ∃ x ∈ wsK 32 k s, (paT x).2 = false) : ∀ M, ¬ IsSy s M := by
  intro M hM
  have h0 : M ≠ [] := fun e => by subst e; exact hd (sy_nil hM)
  obtain ⟨x, hx, hf⟩ := h
  have := (sy_read hM h0 k (hk M hM)).1 x hx
  rw [hf] at this
  cases this
theorem not_sy2 {s : List UInt8} {k : Nat} (hd : s ≠ [45]) (hk : ∀ M, IsSy s M → M.length ≤ k + 1) (h : syB (rdL (wsK 32 k s)) = false) : ∀ M, ¬ IsSy s M := by
  intro M hM
  have h0 : M ≠ [] := fun e => by subst e; exact hd (sy_nil hM)
  have := (sy_read hM h0 k (hk M hM)).2
  rw [this, hM.1] at h
  cases h
theorem sy_bd {s : List UInt8} {M : List AtD} (h : IsSy s M) : M.length ≤ min 41 (s.length + 1) := by
  by_cases h0 : M = []
  · subst h0; simp
  · obtain ⟨_, h1, h2, _⟩ := sy_words h h0 M.length (by omega)
    omega

def PySR (P : List (List UInt8)) (w1 : World) (v i : Value) (wr : World) : Prop :=
  ∃ k : Nat, i = .int .i64 k ∧ k ≤ P.length ∧ OwnA wr w1.heap.size v (rdL (P.take k)) ∧ Below w1.heap.size w1 wr ∧ ∀ x ∈ P.take k, (paT x).2 = true

set_option maxRecDepth 10000 in
set_option maxHeartbeats 4000000 in
theorem ParseSystem_any (s : List UInt8) (w : World) (hl : s.length ≤ 1048576) (hE : Errs w) (ht : Tab w) (hm : MaxL w) :
    Calls Tryd.prog 6 #[.string (bs s)] w (PsT s w) := by
  have hl0 := bs_list
  have hsz := bs_size
  have h45 : ({ data := #[45] } : ByteArray) = bs [45] := rfl
  obtain ⟨i0, hi, hz0, hz1, hz2⟩ := info_parts Tryd.infoAtom
  have HE := Lib.hid hE
  have HT := Lib.hid ht
  obtain ⟨mx, hmx⟩ := hm
  have HMX := Lib.hid hmx
  have HPA := Lib.hid fun W t h1 h2 h3 => ParseAtom_any t W h1 h2 h3
  have HSV := Lib.hid fun W v L h1 h2 => SystemValid_is v L W h1 h2
  clear hE ht hmx
  obtain ⟨K, hK⟩ : ∃ K, min 41 (s.length + 1) - 1 = K := ⟨_, rfl⟩
  obtain ⟨P, hP⟩ : ∃ P, wsK 32 K s = P := ⟨_, rfl⟩
  have hPl : P.length ≤ 41 := by have := wsK_len 32 K s; rw [hP] at this; omega
  have HPL := Lib.hid hPl
  have HLE := Lib.hid (show ∀ x ∈ P, x.length ≤ 1048576 from fun x hx => Nat.le_trans (wsK_le 32 K s x (by rw [hP]; exact hx)) hl)
  have HP := Lib.hid hP
  have HK := Lib.hid (show ∀ M, IsSy s M → M.length ≤ K + 1 from fun M h => by have := sy_bd h; omega)
  have HSP := Lib.hid (show Lib.splitB { data := #[32] } 0 (min 41 ((bs s).size + 1) - 1) (bs s) = P.map bs by rw [bs_size, hK, splitB_ws, hP])
  obtain ⟨cp, hcp⟩ : ∃ cp, min 41 ((bs s).size + 1) = cp := ⟨_, rfl⟩
  have hSN := fun W (hW : W.cell? ⟨0, 0, none⟩ = some (.int .i64 mx)) => Tryd.strings_SplitN (bs s) { data := #[32] } 41 mx W (by rw [bs_size]; omega) hW (by decide) (by decide) (by decide)
  rw [HSP.out, hcp, List.length_map] at hSN
  have HSN := Lib.hid hSN
  have hcpl : P.length ≤ cp := by have := congrArg List.length HSP.out; rw [List.length_map] at this; have h2 := Lib.splitB_length_le { data := #[32] } 0 (min 41 ((bs s).size + 1) - 1) (bs s); omega
  clear hP hK HSP hSN hPl
  rcases hq : (s == [45]) with _ | _
  · have HD := Lib.hid (show s ≠ [45] from by simpa using hq)
    go_enter Tryd.func6, Tryd.ntmps6
    go_wp2_with fail
    refine (HSN.out w HMX.out).mono ?_
    rintro e w1 ⟨rfl, hw1⟩
    have hb1 : Below w.heap.size w w1 := by rw [hw1]; go_grown
    have hlt1 : w.heap.size < w1.heap.size := by rw [hw1]; simp [go_sem]
    have HC1 := Lib.hid (show ∀ (j : Nat) T, P[j]? = some T → w1.cell? ⟨w.heap.size, j, none⟩ = some (.string (bs T)) from fun j T hj => by
      have hj1 : j < P.length := (List.getElem?_eq_some_iff.1 hj).1
      rw [hw1]
      have e : (Lib.cellsOf (P.map bs) cp)[j]? = some (.string (bs T)) := by
        have h2 := (List.getElem?_eq_some_iff.1 hj).2
        simp [Lib.cellsOf, List.getElem?_append_left, hj1, h2]
      simpa using e)
    have HB1 := Lib.hid hb1
    clear hw1 hb1 hcpl
    have HST := Lib.hid (show PySR P w1 (.slice none 0 0) (.int .i64 0) w1 from ⟨0, rfl, Nat.zero_le _, World.ownsRow_nil _ _ _ _, Below.refl _ _, by simp⟩)
    go_wp2_with fail
    go_loopw [4, 14] (fun v i wr => PySR P w1 v i wr) (fun _ i _ => P.length - (intOf i).toNat)
    case atStart => exact HST.out
    case round =>
      obtain ⟨k, rfl, hk, hown, hbw, hall⟩ := hrel
      clear HST
      have HO := Lib.hid hown
      have HB := Lib.hid hbw
      have HA := Lib.hid hall
      have hs1 : w1.heap.size ≤ wr.heap.size := hbw.size
      clear hown hbw hall
      by_cases hlt : k < P.length
      · have hk' : (k : Int) < (P.length : Int) := by omega
        have hkb : k ≤ 41 := by have := HPL.out; omega
        obtain ⟨T, hT⟩ : ∃ T, P[k]? = some T := ⟨_, List.getElem?_eq_getElem hlt⟩
        have HTM := Lib.hid (show T ∈ P from List.mem_of_getElem? hT)
        have HT1 := Lib.hid (rdL_snoc hT)
        have HT2 := Lib.hid (take_snocS hT)
        have hcell : wr.cell? ⟨w.heap.size, k, none⟩ = some (.string (bs T)) := (HB.out.cell (p := ⟨w.heap.size, k, none⟩) hlt1).trans (HC1.out k T hT)
        obtain ⟨⟨A, ok⟩, hr⟩ : ∃ r, paT T = r := ⟨_, rfl⟩
        have HPT := Lib.hid hr
        have hlen : (rdL (P.take k)).length = k := by simp [rdL]; omega
        have HLN := Lib.hid hlen
        clear hT hr hlen
        have hwr := HB1.out.trans (HB.out.mono (Nat.le_of_lt hlt1))
        have HWR := Lib.hid hwr
        clear hwr
        go_wp2_with fail
        refine (HPA.out _ T (HLE.out T HTM.out) (errs_on HE.out HWR.out) (tab_on HT.out HWR.out)).mono ?_
        rw [HPT.out]
        rintro e w3 ⟨rfl, hb3⟩
        obtain ⟨ak, am, aa, ab, ac, ad, an⟩ := A
        simp only [PaV, AtV]
        have hown3 := own_below (show wr.ownsRow w1.heap.size 38 7 _ (rdL (P.take k)).length (AL (rdL (P.take k))) from HO.out) hb3
        have HB3 := Lib.hid (Below.trans HB.out (hb3.mono hs1))
        have hs3 : w1.heap.size ≤ w3.heap.size := HB3.out.size
        clear hb3 hcell
        go_upto_region 8 with fail
        generalize hW : World.alloc w3 _ = W4
        have hx : C7 W4 w3.heap.size ak am aa ab ac ad an := by subst hW; exact (by refine ⟨?_, ?_, ?_, ?_, ?_, ?_, ?_, ?_⟩ <;> first | (simp [go_sem]; done) | (simp; omega))
        have hb4 : Below w3.heap.size w3 W4 := by subst hW; go_grown
        clear hW
        obtain ⟨x0, x1, x2, x3, x4, x5, x6, x7⟩ := hx
        have hown4 := own_below hown3 hb4
        have HB4 := Lib.hid (Below.trans HB3.out (hb4.mono hs3))
        have hs4 : w1.heap.size ≤ W4.heap.size := HB4.out.size
        clear hown3 hb4 HB3
        cases ok with
        | false =>
          have HN := Lib.hid (not_sy HD.out HK.out ⟨T, by rw [HP.out]; exact HTM.out, by rw [HPT.out]⟩)
          go_wp2
          go_ret2
          exact ⟨_, [], false, rfl, World.ownsRow_nil _ _ _ _, HB1.out.trans (HB4.out.mono (Nat.le_of_lt hlt1)), by simp, by simp, fun _ => ⟨rfl, HN.out⟩⟩
        | true =>
          go_wp2_with (at_builtin; refine wpList_append_own _ rfl _ _ 22 rfl w1.heap.size 38 i0 (.agg #[.int .i64 0, .int .i64 0, .int .i64 0, .int .i64 0, .int .i64 0, .int .i64 0, .int .i64 0]) 7 56 Tryd.underlying22 hi hz0 hz1 hz2 rfl (by decide) _ _ _ rfl (hown4.alloc _) ⟨W4.heap.size, 0, none⟩ 1 1 (acells ⟨ak, am, aa, ab, ac, ad, an⟩) rfl rfl ?c1 ?c2 ?c3 ?c4 ?c5 ?_)
          case c1 => exact atom_newsS (w := W4) ⟨ak, am, aa, ab, ac, ad, an⟩
          case c2 => exact acells_oneS _
          case c3 => rw [HLN.out]; unfold maxLen; omega
          case c4 => rw [HLN.out]; omega
          case c5 => simp; omega
          · intro v' w5 hown5 hgrow _
            have hbA : Below W4.heap.size W4 (W4.alloc (.cells (acells ⟨ak, am, aa, ab, ac, ad, an⟩).toArray 38)) := by go_grown
            have HN5 : Hid (OwnA w5 w1.heap.size v' (rdL (P.take (k + 1)))) := by
              show w5.ownsRow _ _ _ _ _ _
              rw [HT1.out, HPT.out, al_app, List.length_append]
              have e : AL [(⟨ak, am, aa, ab, ac, ad, an⟩ : AtD)] = acells ⟨ak, am, aa, ab, ac, ad, an⟩ := by simp [AL]
              rw [e]
              exact hown5
            have HB5 : Hid (Below w1.heap.size w1 w5) := (Below.trans HB4.out (hbA.mono hs4)).trans (grown_lowS (own_below hown4 hbA) (Nat.le_refl _) (by have := hbA.size; omega) hgrow)
            have HA5 := Lib.hid (show ∀ x ∈ P.take (k + 1), (paT x).2 = true from fun x hx => by
              rw [HT2.out] at hx
              rcases List.mem_append.1 hx with hx | hx
              · exact HA.out x hx
              · rw [List.mem_singleton.1 hx, HPT.out])
            clear hown5 hgrow hbA hown4 x0 x1 x2 x3 x4 x5 x6 x7
            go_wp2
            go_roundw
            case rel => exact ⟨k + 1, by go_num, by omega, HN5.out, HB5.out, HA5.out⟩
            case measure => simp [intOf]; omega
      · have hk' : ¬ (k : Int) < (P.length : Int) := by omega
        have HTK := Lib.hid (show P.take k = P from List.take_of_length_le (by omega))
        rw [HTK.out] at HO HA
        have hlen : (rdL P).length = P.length := by simp [rdL]
        have HLN := Lib.hid hlen
        clear hlen
        obtain ⟨t, hts⟩ : ∃ t, syB (rdL P) = t := ⟨_, rfl⟩
        have HTS := Lib.hid hts
        clear hts
        go_wp2_with fail
        refine (HSV.out _ _ _ (ownA_reads HO.out) (by rw [HLN.out]; have := HPL.out; omega)).mono ?_
        rw [HTS.out]
        rintro e w3 ⟨rfl, hb3⟩
        have HO3 := Lib.hid (show OwnA w3 w1.heap.size _ (rdL P) from own_below HO.out hb3)
        have HB3 := Lib.hid (HB1.out.trans ((Below.trans HB.out (hb3.mono hs1)).mono (Nat.le_of_lt hlt1)))
        clear hb3
        cases t with
        | false =>
          have HN := Lib.hid (not_sy2 HD.out HK.out (by rw [HP.out]; exact HTS.out))
          go_wp2
          go_ret2
          exact ⟨_, [], false, rfl, World.ownsRow_nil _ _ _ _, HB3.out, by simp, by simp, fun _ => ⟨rfl, HN.out⟩⟩
        | true =>
          have HS := Lib.hid (show IsSy s (rdL P) by
            rw [← HP.out]
            exact sy_prog (by rw [HP.out]; exact HA.out) (by rw [HP.out]; exact HTS.out))
          go_wp2
          go_ret2
          exact ⟨_, rdL P, true, rfl, own_mono HO3.out (Nat.le_of_lt hlt1), HB3.out, by rw [HLN.out]; exact HPL.out, fun _ => HS.out, by simp⟩
  · have HD := Lib.hid (show s = [45] from by simpa using hq)
    go_enter Tryd.func6, Tryd.ntmps6
    go_wp2
    go_ret2
    exact ⟨_, [], true, rfl, World.ownsRow_nil _ _ _ _, Below.refl _ _, by simp, fun _ => ⟨rfl, HD.out.symm⟩, by simp⟩

end Go.Proofs.YtjgmoledhkikcaaDoor

/- ParseSystem of the model. -/
namespace Go.Proofs.YtjgmoledhkikcaaDoor
open Go.RowKit

theorem app_rowS {P : Program} {w : World} {base t ty e sz : Nat} {i : TypeInfo} {z : Value} {bytes : Nat} (ht : P.underlying t = some (.slice e)) (hi : P.info? e = some i) (hz : i.zero = some z) (hsize : i.size = sz) (hby : i.bytes = bytes) (hzs : z.cells.size = sz) (hsz : 0 < sz)
    {v : Value} {n : Nat} {xs : List Value} (hown : w.ownsRow base e sz v n xs) {a : Addr} {row : List Value} (hrow : row.length = sz) (hnews : ∀ j u, row[j]? = some u → w.cell? (a.add j) = some u) (h1 : ∀ u ∈ row, u.oneCell' = true) (hn : n ≤ 1048576) (hbt : bytes ≤ 1024) (hbase : base ≤ w.heap.size) :
    ∃ v' w', (Builtin.append_ #[t, t] ty #[v, .slice (some a) 1 1]).run P w = .ok v' w' ∧ w'.ownsRow base e sz v' (n + 1) (xs ++ row) ∧ w.grownBy w' v.ownBlock ∧ (v'.ownBlock = v.ownBlock ∨ v'.ownBlock = some w.heap.size) := by
  have hbb : (n + 1) * bytes ≤ 140737488355328 := Nat.le_trans (Nat.mul_le_mul (by omega : n + 1 ≤ 1048577) hbt) (by omega)
  have hm : n + 1 ≤ maxLen := by unfold maxLen; omega
  have hrow1 : row.length = 1 * sz := by omega
  obtain ⟨v', w', hr, h2, h3, _⟩ := run_append_own (P := P) w base t ty e i z sz bytes ht hi hz hsize hby hzs hsz v n xs hown a 1 1 row hrow1 hnews h1 hm hbb hbase
  refine ⟨v', w', hr, h2, h3, ?_⟩
  rcases hown.2 with ⟨rfl, rfl⟩ | ⟨g, cap, cur, rfl, _, hg, hnc, _, hcs, _⟩
  · have h := run_append_nil (P := P) w t ty e i z ht hi hz a 1 1 row (by rw [hsize]; exact hrow1) hnews (by omega) (by omega) (by rw [hby]; omega)
    rw [h] at hr
    injection hr with e1 e2
    exact .inr (by rw [← e1]; rfl)
  · by_cases hroom : n + 1 ≤ cap
    · have h := run_append_room (P := P) w t ty e i ht hi g n cap cur hg a 1 1 row (by rw [hsize]; exact hrow1) hnews h1 hroom (by rw [hsize, hcs, hrow, ← Nat.succ_mul]; exact Nat.mul_le_mul_right sz hroom)
      rw [h] at hr
      injection hr with e1 e2
      exact .inl (by rw [← e1]; rfl)
    · have holds : ∀ j u, xs[j]? = some u → w.cell? ((⟨g, 0, none⟩ : Addr).add j) = some u := hown.cells (g := g) rfl
      have h := run_append_grow (P := P) w t ty e i z ht hi hz ⟨g, 0, none⟩ n cap xs (by rw [hsize]; exact hown.1) holds a 1 1 row (by rw [hsize]; exact hrow1) hnews (by omega) (by have := hm; unfold maxLen at this; omega) (growslice_fits (by omega) (by rw [hby]; exact hbb))
      rw [h] at hr
      injection hr with e1 e2
      exact .inr (by rw [← e1]; rfl)

def MySR (P : List (List UInt8)) (bw : Nat) (w : World) (v i : Value) (wr : World) : Prop :=
  ∃ k : Nat, i = .int .i64 k ∧ k ≤ 41 ∧ k ≤ P.length ∧ OwnA wr w.heap.size v (rdL (P.take k)) ∧ Below w.heap.size w wr ∧ some bw ≠ v.ownBlock ∧ bw < wr.heap.size ∧ ∀ (j : Nat) T, P[j]? = some T → wr.cell? ⟨bw, j, none⟩ = some (.string (bs T))

set_option maxRecDepth 10000 in
set_option maxHeartbeats 4000000 in
theorem specParseSystem_any (s : List UInt8) (w : World) (hl : s.length ≤ 1048576) :
    Calls Tryd.prog 5 #[.string (bs s)] w (PsT s w) := by
  have hl0 := bs_list
  have hsz := bs_size
  have h45 : ({ data := #[45] } : ByteArray) = bs [45] := rfl
  obtain ⟨i0, hi, hz0, hz1, hz2⟩ := info_parts Tryd.infoAtom
  have HPA := Lib.hid fun W t h1 => specParseAtom_any t W h1
  have HFS := Lib.hid fun W v L h1 h2 => specFormatSystem_any v L W h1 h2
  have HCT := Lib.hid fun W => l17Cut_any s W hl
  obtain ⟨P, hP⟩ : ∃ P, wA 32 s = P := ⟨_, rfl⟩
  unfold CtT at HCT
  rw [hP] at HCT
  have HLE := Lib.hid (show ∀ x ∈ P, x.length ≤ 1048576 from fun x hx => Nat.le_trans (wsK_le 32 s.length s x (by rw [← hP] at hx; exact hx)) hl)
  have HPN := Lib.hid (show P ≠ [] from by rw [← hP]; exact wsK_ne 32 s.length s)
  have HPL := Lib.hid (show P.length ≤ 1048577 from by have := wA_len 32 s; rw [hP] at this; omega)
  have HP := Lib.hid (show wsK 32 s.length s = P from hP)
  clear hP
  rcases hq : (s == [45]) with _ | _
  · have HD := Lib.hid (show s ≠ [45] from by simpa using hq)
    go_enter Tryd.func5, Tryd.ntmps5
    go_wp2_with fail
    generalize hW0 : World.alloc _ _ = W0
    have hb0 : Below w.heap.size w W0 := by subst hW0; go_grown
    have hlt0 : w.heap.size < W0.heap.size := by subst hW0; simp [go_sem]
    have hown0 : OwnA W0 w.heap.size (.slice (some ⟨w.heap.size, 0, none⟩) 0 0) [] := by
      subst hW0
      exact World.ownsRow_lit w #[] 0 (Nat.le_refl _) (by unfold maxLen; omega) rfl
    clear hW0
    go_wp2_with fail
    refine (HCT.out W0).mono ?_
    rintro e w1 ⟨v1, rfl, ho1, hb1⟩
    obtain ⟨bw, cap, rfl, _, hbw0, hbw1, hc1⟩ := ownT_cell ho1 HPN.out
    have HST := Lib.hid (show MySR P bw w (.slice (some ⟨w.heap.size, 0, none⟩) 0 0) (.int .i64 0) w1 from ⟨0, rfl, by omega, Nat.zero_le _, own_below hown0 hb1, below_on hb0 hb1, by intro e; simp [Value.ownBlock] at e; omega, hbw1, hc1⟩)
    clear hb0 hown0 hb1 ho1 hc1 hbw1 hbw0 hlt0
    go_wp2_with fail
    go_loopw [4, 6] (fun v i wr => MySR P bw w v i wr) (fun _ i _ => 41 - (intOf i).toNat)
    case atStart => exact HST.out
    case round =>
      obtain ⟨k, rfl, hk41, hk, hown, hbw, hne, hbl, hc⟩ := hrel
      clear HST
      have HO := Lib.hid hown
      have HB := Lib.hid hbw
      have HC := Lib.hid hc
      have HNE := Lib.hid hne
      have hs1 : w.heap.size ≤ wr.heap.size := hbw.size
      clear hown hbw hc hne
      by_cases hlt : k < P.length ∧ k ≤ 40
      · obtain ⟨hlt, hle⟩ := hlt
        have hk' : (k : Int) < (P.length : Int) := by omega
        have hk2 : (k : Int) ≤ 40 := by omega
        obtain ⟨T, hT⟩ : ∃ T, P[k]? = some T := ⟨_, List.getElem?_eq_getElem hlt⟩
        have HTM := Lib.hid (show T ∈ P from List.mem_of_getElem? hT)
        have HT1 := Lib.hid (rdL_snoc hT)
        have hcell : wr.cell? ⟨bw, k, none⟩ = some (.string (bs T)) := HC.out k T hT
        obtain ⟨⟨A, ok⟩, hr⟩ : ∃ r, paT T = r := ⟨_, rfl⟩
        have HPT := Lib.hid hr
        have hlen : (rdL (P.take k)).length = k := by simp [rdL]; omega
        have HLN := Lib.hid hlen
        clear hT hr hlen
        go_wp2_with fail
        refine (HPA.out _ T (HLE.out T HTM.out)).mono ?_
        rw [HPT.out]
        rintro e w3 ⟨rfl, hb3⟩
        obtain ⟨ak, am, aa, ab, ac, ad, an⟩ := A
        simp only [PaV, AtV]
        have hown3 := own_below (show wr.ownsRow w.heap.size 38 7 _ (rdL (P.take k)).length (AL (rdL (P.take k))) from HO.out) hb3
        have HB3 := Lib.hid (below_on HB.out hb3)
        have hs3 : w.heap.size ≤ w3.heap.size := HB3.out.size
        have HC3 := Lib.hid (show ∀ (j : Nat) T, P[j]? = some T → w3.cell? ⟨bw, j, none⟩ = some (.string (bs T)) from fun j T h => (hb3.cell (p := ⟨bw, j, none⟩) hbl).trans (HC.out j T h))
        have hbl3 : bw < w3.heap.size := Nat.lt_of_lt_of_le hbl hb3.size
        clear hb3 hcell
        go_upto_region 9 with fail
        generalize hW : World.alloc w3 _ = W4
        have hx : C7 W4 w3.heap.size ak am aa ab ac ad an := by subst hW; exact (by refine ⟨?_, ?_, ?_, ?_, ?_, ?_, ?_, ?_⟩ <;> first | (simp [go_sem]; done) | (simp; omega))
        have hb4 : Below w3.heap.size w3 W4 := by subst hW; go_grown
        clear hW
        obtain ⟨x0, x1, x2, x3, x4, x5, x6, x7⟩ := hx
        have hown4 := own_below hown3 hb4
        have HB4 := Lib.hid (below_on HB3.out hb4)
        have HC4 := Lib.hid (show ∀ (j : Nat) T, P[j]? = some T → W4.cell? ⟨bw, j, none⟩ = some (.string (bs T)) from fun j T h => (hb4.cell (p := ⟨bw, j, none⟩) hbl3).trans (HC3.out j T h))
        have hs4 : w.heap.size ≤ W4.heap.size := HB4.out.size
        have hbl4 : bw < W4.heap.size := Nat.lt_of_lt_of_le hbl3 hb4.size
        clear hown3 hb4 HB3 HC3
        obtain ⟨v5, w5, hrun, hown5, hgrow, hob⟩ := app_rowS (P := Tryd.prog) (ty := 22) Tryd.underlying22 hi hz0 hz1 hz2 rfl (by decide) (hown4.alloc (.cells (acells ⟨ak, am, aa, ab, ac, ad, an⟩).toArray 38)) (a := ⟨W4.heap.size, 0, none⟩) (row := acells ⟨ak, am, aa, ab, ac, ad, an⟩) rfl (atom_newsS (w := W4) ⟨ak, am, aa, ab, ac, ad, an⟩) (acells_oneS _) (by rw [HLN.out]; omega) (by omega) (by first | (simp; done) | (simp; omega))
        have HRUN := Lib.hid hrun
        have hbA : Below W4.heap.size W4 (W4.alloc (.cells (acells ⟨ak, am, aa, ab, ac, ad, an⟩).toArray 38)) := by go_grown
        have HN5 : Hid (OwnA w5 w.heap.size v5 (rdL (P.take (k + 1)))) := by
          show w5.ownsRow _ _ _ _ _ _
          rw [HT1.out, HPT.out, al_app, List.length_append]
          have e : AL [(⟨ak, am, aa, ab, ac, ad, an⟩ : AtD)] = acells ⟨ak, am, aa, ab, ac, ad, an⟩ := by simp [AL]
          rw [e]
          exact hown5
        have HB5 : Hid (Below w.heap.size w w5) := (HB4.out.trans (hbA.mono hs4)).trans (grown_lowS (own_below hown4 hbA) (Nat.le_refl _) (by have := hbA.size; omega) hgrow)
        have hblA : bw < (W4.alloc (.cells (acells ⟨ak, am, aa, ab, ac, ad, an⟩).toArray 38)).heap.size := Nat.lt_of_lt_of_le hbl4 hbA.size
        have HC5 := Lib.hid (show ∀ (j : Nat) T, P[j]? = some T → w5.cell? ⟨bw, j, none⟩ = some (.string (bs T)) from fun j T h =>
          (World.cell?_of_block (hgrow.block bw hblA HNE.out)).trans ((hbA.cell (p := ⟨bw, j, none⟩) hbl4).trans (HC4.out j T h)))
        have hbl5 : bw < w5.heap.size := Nat.lt_of_lt_of_le hblA hgrow.size
        have HNE5 := Lib.hid (show some bw ≠ v5.ownBlock from by
          rcases hob with h | h
          · rw [h]; exact HNE.out
          · rw [h]; intro e; injection e with e; omega)
        clear hrun hown5 hgrow hbA hown4 hblA hob
        go_wp2_with (at_builtin; refine wpList_append_run rfl _ _ 22 rfl rfl rfl HRUN.out ?_)
        clear HRUN x0 x1 x2 x3 x4 x5 x6 x7
        go_wp2
        go_roundw
        case rel => exact ⟨k + 1, by go_num, by omega, by omega, HN5.out, HB5.out, HNE5.out, hbl5, HC5.out⟩
        case measure => simp [intOf]; omega
      · have HTK := Lib.hid (show P.take k = P.take 41 from by
          by_cases h : k < P.length
          · rw [show k = 41 by omega]
          · rw [List.take_of_length_le (by omega), List.take_of_length_le (by omega)])
        rw [HTK.out] at HO
        have hlen : (rdL (P.take 41)).length ≤ 41 := by simp [rdL]; omega
        have HLN := Lib.hid hlen
        clear hlen
        obtain ⟨F, hF⟩ : ∃ F, fsyT (rdL (P.take 41)) = F := ⟨_, rfl⟩
        have HF := Lib.hid hF
        clear hF
        by_cases hkp : k < P.length
        · have hk' : (k : Int) < (P.length : Int) := by omega
          have hk2 : ¬ (k : Int) ≤ 40 := by omega
          go_wp2_with fail
          refine (HFS.out _ _ _ (ownA_reads HO.out) (by have := HLN.out; omega)).mono ?_
          rw [HF.out]
          rintro e w3 ⟨rfl, hb3⟩
          have HO3 := Lib.hid (show OwnA w3 w.heap.size _ (rdL (P.take 41)) from own_below HO.out hb3)
          have HB3 := Lib.hid (below_on HB.out hb3)
          clear hb3
          rcases hfs : (F == s) with _ | _
          · have hq2 : (F != s) = true := by unfold bne; rw [hfs]; rfl
            have HN := Lib.hid (show ∀ M, ¬ IsSy s M from fun M hM => by
              have h0 : M ≠ [] := fun e => by subst e; exact HD.out (sy_nil hM)
              have h1 := sy_model hM h0
              rw [HP.out] at h1
              rw [h1, hM.2] at HF
              rw [HF.out] at hfs
              simp at hfs)
            go_wp2_with fail
            generalize hW : World.alloc w3 _ = W5
            have ho5 : OwnA W5 w.heap.size (.slice (some ⟨w3.heap.size, 0, none⟩) 0 0) [] := by
              subst hW
              exact World.ownsRow_lit w3 #[] 0 HB3.out.size (by unfold maxLen; omega) rfl
            have hb5 := Lib.hid (show Below w.heap.size w W5 from by subst hW; exact below_on HB3.out (by go_grown))
            have HO5 := Lib.hid ho5
            clear hW ho5
            go_wp2
            go_ret2
            exact ⟨_, [], false, rfl, HO5.out, hb5.out, by simp, by simp, fun _ => ⟨rfl, HN.out⟩⟩
          · have hq2 : (F != s) = false := by unfold bne; rw [hfs]; rfl
            have HS := Lib.hid (show IsSy s (rdL (P.take 41)) by
              have e : F = s := by simpa using hfs
              have := sy_spec (s := s) (by rw [HP.out, HF.out, e])
              rw [HP.out] at this
              exact this)
            go_wp2
            go_ret2
            exact ⟨_, rdL (P.take 41), true, rfl, HO3.out, HB3.out, HLN.out, fun _ => HS.out, by simp⟩
        · have hk' : ¬ (k : Int) < (P.length : Int) := by omega
          go_wp2_with fail
          refine (HFS.out _ _ _ (ownA_reads HO.out) (by have := HLN.out; omega)).mono ?_
          rw [HF.out]
          rintro e w3 ⟨rfl, hb3⟩
          have HO3 := Lib.hid (show OwnA w3 w.heap.size _ (rdL (P.take 41)) from own_below HO.out hb3)
          have HB3 := Lib.hid (below_on HB.out hb3)
          clear hb3
          rcases hfs : (F == s) with _ | _
          · have hq2 : (F != s) = true := by unfold bne; rw [hfs]; rfl
            have HN := Lib.hid (show ∀ M, ¬ IsSy s M from fun M hM => by
              have h0 : M ≠ [] := fun e => by subst e; exact HD.out (sy_nil hM)
              have h1 := sy_model hM h0
              rw [HP.out] at h1
              rw [h1, hM.2] at HF
              rw [HF.out] at hfs
              simp at hfs)
            go_wp2_with fail
            generalize hW : World.alloc w3 _ = W5
            have ho5 : OwnA W5 w.heap.size (.slice (some ⟨w3.heap.size, 0, none⟩) 0 0) [] := by
              subst hW
              exact World.ownsRow_lit w3 #[] 0 HB3.out.size (by unfold maxLen; omega) rfl
            have hb5 := Lib.hid (show Below w.heap.size w W5 from by subst hW; exact below_on HB3.out (by go_grown))
            have HO5 := Lib.hid ho5
            clear hW ho5
            go_wp2
            go_ret2
            exact ⟨_, [], false, rfl, HO5.out, hb5.out, by simp, by simp, fun _ => ⟨rfl, HN.out⟩⟩
          · have hq2 : (F != s) = false := by unfold bne; rw [hfs]; rfl
            have HS := Lib.hid (show IsSy s (rdL (P.take 41)) by
              have e : F = s := by simpa using hfs
              have := sy_spec (s := s) (by rw [HP.out, HF.out, e])
              rw [HP.out] at this
              exact this)
            go_wp2
            go_ret2
            exact ⟨_, rdL (P.take 41), true, rfl, HO3.out, HB3.out, HLN.out, fun _ => HS.out, by simp⟩
  · have HD := Lib.hid (show s = [45] from by simpa using hq)
    go_enter Tryd.func5, Tryd.ntmps5
    go_wp2_with fail
    generalize hW0 : World.alloc _ _ = W0
    have hb0 : Below w.heap.size w W0 := by subst hW0; go_grown
    have hown0 : OwnA W0 w.heap.size (.slice (some ⟨w.heap.size, 0, none⟩) 0 0) [] := by
      subst hW0
      exact World.ownsRow_lit w #[] 0 (Nat.le_refl _) (by unfold maxLen; omega) rfl
    clear hW0
    go_wp2
    go_ret2
    exact ⟨_, [], true, rfl, hown0, hb0, by simp, fun _ => ⟨rfl, HD.out.symm⟩, by simp⟩

end Go.Proofs.YtjgmoledhkikcaaDoor

/- The walk of the law that says that ParseSystem answers as its model does. -/
namespace Go.Proofs.YtjgmoledhkikcaaDoor
open Go.RowKit

theorem ps_one {s : List UInt8} {L M : List AtD} {p q : Bool} (h1 : p = true → IsSy s L) (h2 : p = false → L = [] ∧ ∀ K, ¬ IsSy s K) (k1 : q = true → IsSy s M) (k2 : q = false → M = [] ∧ ∀ K, ¬ IsSy s K) : M = L ∧ q = p := by
  cases p with
  | true =>
    cases q with
    | true => exact ⟨sy_one (k1 rfl) (h1 rfl), rfl⟩
    | false => exact absurd (h1 rfl) ((k2 rfl).2 L)
  | false =>
    cases q with
    | true => exact absurd (k1 rfl) ((h2 rfl).2 M)
    | false => exact ⟨(k2 rfl).1.trans (h2 rfl).1.symm, rfl⟩

set_option maxRecDepth 10000 in
set_option maxHeartbeats 4000000 in
theorem exactParseSystem_walk (s : List UInt8) (w : World) (hE : Errs w) (hT : Tab w) (hm : MaxL w) :
    Calls Tryd.prog 3 #[.string (bs s)] w fun e w' => e = .returned (.bool true) ∧ Below w.heap.size w w' := by
  have hs := bs_size s
  obtain ⟨M, hM⟩ : ∃ M, s.length = M := ⟨_, rfl⟩
  rw [hM] at hs
  have HE := Lib.hid hE
  have HT := Lib.hid hT
  have HM := Lib.hid hm
  clear hE hT hm
  by_cases hb : M ≤ 1048576
  · have HSP := Lib.hid fun W => specParseSystem_any s W (by omega)
    have HIM := Lib.hid fun W h1 h2 h3 => ParseSystem_any s W (by omega) h1 h2 h3
    unfold PsT at HSP HIM
    have hlt : ¬ (1048576 : Int) < (M : Int) := by omega
    clear hb hM
    go_enter Tryd.func3, Tryd.ntmps3
    go_wp2_with fail
    refine (HSP.out w).mono ?_
    rintro e w1 ⟨v1, L, ok, rfl, ho1, hb1, hL, hy1, hn1⟩
    have HR1 := Lib.hid (ownA_reads ho1)
    have HB1 := Lib.hid hb1
    have HY1 := Lib.hid hy1
    have HN1 := Lib.hid hn1
    have hs1 : w.heap.size ≤ w1.heap.size := hb1.size
    clear ho1 hb1 hy1 hn1
    have e3 : (ok != ok) = false := by simp
    obtain ⟨N, hN⟩ : ∃ N : Int, 1 + ((L.length * 7 : Nat) : Int) = N := ⟨_, rfl⟩
    have hN0 : 0 ≤ N := by omega
    have hN1 : N ≤ 400 := by omega
    have hN2 : ¬ N < 0 := by omega
    have HN := Lib.hid hN
    clear hN
    go_wp2_with fail
    refine (HIM.out w1 (errs_on HE.out HB1.out) (tab_on HT.out HB1.out) (maxL_on HM.out HB1.out)).mono ?_
    rintro e w2 ⟨v2, L2, ok2, rfl, ho2, hb2, _, hy2, hn2⟩
    obtain ⟨rfl, rfl⟩ := ps_one HY1.out HN1.out hy2 hn2
    have HV2 := Lib.hid ho2
    have h12 := Lib.hid hb2
    clear ho2 hb2 hy2 hn2
    go_wp2_with fail
    refine (eqAtomS_same _ _ _ _ (ownA_reads HV2.out) (readsA_on HR1.out h12.out) (by omega)).mono ?_
    rintro e w3 ⟨rfl, hb3⟩
    have h13 := Lib.hid (below_on h12.out hb3)
    have HV3 := Lib.hid (show OwnA w3 w1.heap.size v2 _ from own_below HV2.out hb3)
    have hs3 : w1.heap.size ≤ w3.heap.size := h13.out.size
    clear hb3 h12 HV2
    go_wp2_with fail
    refine (markAtomS_t w1.heap.size _ 1 N _ _ HV3.out hs3 (by omega) (by omega) (by omega) HN.out).mono ?_
    rintro e w4 ⟨rfl, ho4, hb4⟩
    have h14 := Lib.hid (Below.trans h13.out hb4)
    have HV4 := Lib.hid ho4
    clear ho4 hb4 h13 HV3
    go_wp2_with fail
    refine (heldAtomS_t _ 1 N _ _ (ownA_reads HV4.out) (by omega) (by omega) (by omega) HN.out).mono ?_
    rintro e w' ⟨rfl, rfl⟩
    have hw4 := Lib.hid (below_on HB1.out h14.out)
    go_wp2_with fail
    refine (HIM.out w4 (errs_on HE.out hw4.out) (tab_on HT.out hw4.out) (maxL_on HM.out hw4.out)).mono ?_
    rintro e w5 ⟨v5, L5, ok5, rfl, ho5, hb5, _, hy5, hn5⟩
    obtain ⟨hL5, rfl⟩ := ps_one HY1.out HN1.out hy5 hn5
    subst hL5
    have h15 := Lib.hid (below_on h14.out hb5)
    have HV5 := Lib.hid (own_below HV4.out hb5)
    have HR5 := Lib.hid (ownA_reads ho5)
    clear ho5 hb5 hy5 hn5 h14 HV4
    go_wp2_with fail
    refine (eqAtomS_same _ _ _ _ HR5.out (readsA_on HR1.out h15.out) (by omega)).mono ?_
    rintro e w6 ⟨rfl, hb6⟩
    have h16 := Lib.hid (below_on h15.out hb6)
    have HV6 := Lib.hid (own_below HV5.out hb6)
    clear hb6 HV5 h15
    go_wp2_with fail
    refine (heldAtomS_t _ 1 N _ _ (ownA_reads (show OwnA w6 w1.heap.size v2 (marksA 1 _) from HV6.out)) (by omega) (by omega) (by omega) HN.out).mono ?_
    rintro e w' ⟨rfl, rfl⟩
    go_wp2
    go_ret
    exact ⟨rfl, below_on HB1.out h16.out⟩
  · have hlt : (1048576 : Int) < (M : Int) := by omega
    clear hb hM
    go_enter Tryd.func3, Tryd.ntmps3
    go_wp2
    go_ret
    exact ⟨rfl, by go_grown⟩
end Go.Proofs.YtjgmoledhkikcaaDoor
