/- strings.Join over an own list of strings. -/
import Derived.Test.YtjgmoledhkikcaaDoorOwT
import Derived.Test.YtjgmoledhkikcaaDoorShelf
import Derived.Lib.Join
namespace Go.Proofs.YtjgmoledhkikcaaDoor
open Go.RowKit

theorem join_is (v : Value) (B : Nat) (L : List (List UInt8)) (sep : List UInt8) (w : World) (h : OwnT w B v L) (hL : L ≠ []) (hl : L.length ≤ 1048576) (hj : (Lib.join L sep).length ≤ 100000000) :
    Calls Tryd.prog 45 #[v, .string (bs sep)] w fun e w' => e = .returned (.string (bs (Lib.join L sep))) ∧ Below w.heap.size w w' := by
  have hne : L.length ≠ 0 := fun e => hL (List.length_eq_zero_iff.1 e)
  have hrow := h
  rcases h.2 with ⟨_, h0⟩ | ⟨g, cap, cur, rfl, hbg, hg, hnc, hcm, hcs, htake⟩
  · exact absurd h0 hne
  · have e1 : (L.map bs).map (·.data.toList) = L := by rw [List.map_map]; exact (List.map_congr_left (fun x _ => bs_data x)).trans (List.map_id L)
    have hlen : (L.map bs).length = L.length := by simp
    have := Tryd.strings_Join g 0 cap (L.map bs) (bs sep) w (fun j x hx => by
        have hj' : j < L.length := by have := (List.getElem?_eq_some_iff.1 hx).1; simpa using this
        have hc := World.ownsRow.cellAt (show w.ownsRow B 9 1 (.slice (some ⟨g, 0, none⟩) L.length cap) L.length (L.map stV) from hrow) j (by omega)
        rw [Nat.zero_add, hc]
        rw [List.getElem?_map] at hx ⊢
        rw [List.getElem?_eq_getElem hj'] at hx ⊢
        simp only [Option.map_some, Option.some.injEq] at hx ⊢
        subst hx
        rfl) ((World.ownsRow.lt hrow g rfl).2) (by rw [hlen]; omega) (by rw [hlen]; exact hnc) (by rw [e1, bs_data]; omega)
    rw [e1, bs_data, hlen] at this
    exact this

end Go.Proofs.YtjgmoledhkikcaaDoor
