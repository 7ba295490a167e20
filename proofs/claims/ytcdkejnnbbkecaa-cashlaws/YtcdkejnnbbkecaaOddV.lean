/- What is none of package api's numbers, as the statements make it. -/
import Derived.Test.YtcdkejnnbbkecaaSize
namespace Go.Proofs.Ytcdkejnnbbkecaa
open Go.RowKit
set_option linter.unusedVariables false

def OddPost (w : World) (e : Ending) (w' : World) : Prop := ∃ o : O, e = .returned o.val ∧ o.Ok ∧ (o = .const 1 ∨ ∃ v, o = .odd v) ∧ Below w.heap.size w w'
theorem strange_of (t : TypeId) (x : Value) (h0 : t ≠ 58) (h1 : t ≠ 90) (h2 : t ≠ 92) (h3 : t ≠ 94) (h4 : t ≠ 95) (h5 : t ≠ 96) : (O.odd (.iface t x)).Ok := .inr ⟨t, x, rfl, h0, h1, h2, h3, h4, h5⟩

end Go.Proofs.Ytcdkejnnbbkecaa
