/- A body that begins with a label, to which it may jump back. -/
import Derived.WalkMore
import Derived.ScopeJumps
import Derived.Test.YtkhnninnmpffmaaDoorBaseA
namespace Go.Proofs.YtkhnninnmpffmaaDoor
variable {P : Program} {Q : Exit → Act → World → Prop} {a : Act} {w : World}
theorem wp_scope_again {body : Code} (l : Nat) (J : Act → World → Prop) (μ : Act → World → Nat) (hJ : J a w)
    (pass : ∀ a w, J a w → body.wp P (Exit.jump l (fun a' w' => J a' w' ∧ μ a' w' < μ a w) Q) a w) : (Code.scope (.seq (.label l) body)).wp P Q a w := by
  have hf : findLabel (.seq (.label l) body) l = some (.seq .skip body) := by simp [findLabel]
  refine wp_scope_jumps l J μ hf ?_ fun a w h => ?_
  · refine wp_seq (wp_label ?_)
    refine wp_mono (pass a w hJ) fun e a' w' h => ?_
    cases e <;> first | exact h | exact ⟨h.1, h.2.1⟩
  · refine wp_seq (wp_skip ?_)
    exact pass a w h
end Go.Proofs.YtkhnninnmpffmaaDoor
