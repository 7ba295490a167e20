/- The contract of a tree, as the statements make it: what is needed. -/
import Derived.Test.YtjcigjmeafofaaaObsT2
import Derived.Test.YtjcigjmeafofaaaTermWalk
namespace Go.Proofs.Ytjcigjmeafofaaa
open Go.RowKit
set_option linter.unusedVariables false

theorem part_class {W w' : World} {t : T} {v r : Value} {f : Nat} (ih : ∀ w v, TIn w 0 t v → Calls Try.prog f #[v] w fun e w' => e = .returned r ∧ Below w.heap.size w w') (ht : TIn W 0 t v) (hw : Below W.heap.size W w') :
    Calls Try.prog f #[v] w' (fun e w'' => e = .returned r ∧ Below W.heap.size W w'') :=
  (ih w' v (ht.below hw)).mono (fun e w'' ⟨he, hb⟩ => ⟨he, hw.trans (hb.mono hw.size)⟩)


end Go.Proofs.Ytjcigjmeafofaaa
