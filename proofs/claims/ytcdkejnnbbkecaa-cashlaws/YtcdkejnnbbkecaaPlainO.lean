/- A number as a tree, as the statements make it of any number. -/
import Derived.Test.YtcdkejnnbbkecaaMakerC0
namespace Go.Proofs.Ytcdkejnnbbkecaa
open Go.RowKit
set_option linter.unusedVariables false

/-- What a call that makes a tree answers. -/
def TreePost (w : World) (t : T) (e : Ending) (w' : World) : Prop := ∃ ka kc, e = .returned (.agg #[.int .i64 t.kind, .string t.s, .int .i64 t.n, .slice ka t.k.length kc]) ∧ TIn w' w.heap.size t (.agg (four t ka kc)) ∧ Below w.heap.size w w'

theorem tree_leaf (w w' : World) (kind : Int) (s : ByteArray) (n : Int) (h : Below w.heap.size w w') : TreePost w (.mk kind s n []) (.returned (.agg #[.int .i64 kind, .string s, .int .i64 n, .slice none 0 0])) w' :=
  ⟨none, 0, rfl, tin_leaf _ _ _ _ _, h⟩

end Go.Proofs.Ytcdkejnnbbkecaa
