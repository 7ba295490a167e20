/- The document's own answers on a number's tree: its size, its labels. -/
import Derived.Test.YtiaaibblihebjaaDoorRefT
import Derived.Test.YtiaaibblihebjaaDoorMakerObs
namespace Go.Proofs.YtiaaibblihebjaaDoor
open Go.RowKit
set_option linter.unusedVariables false

theorem plain_k (o : O) : (plain o).k = o.kids.map plain := by cases o <;> rfl
theorem plain_nodes (o : O) : (plain o).nodes = o.nodes := by
  induction o <;> simp [plain, T.nodes, nodesL, O.nodes] <;> omega
theorem plain_depth (o : O) : (plain o).depth = o.depth := by
  induction o <;> simp [plain, T.depth, depthL, O.depth] <;> omega
def plainKind : O → Int
  | .const _ => 11
  | .fix _ => 12
  | .add _ _ => 13
  | .neg _ => 14
  | .mul _ _ => 15
  | .max _ _ => 16
  | .odd _ => 0
theorem plain_kind (o : O) : (plain o).kind = plainKind o := by cases o <;> rfl
theorem map_get (o k : O) (i : Nat) (h : o.kids[i]? = some k) : (o.kids.map plain)[i]? = some (plain k) := by simp [h]

end Go.Proofs.YtiaaibblihebjaaDoor
