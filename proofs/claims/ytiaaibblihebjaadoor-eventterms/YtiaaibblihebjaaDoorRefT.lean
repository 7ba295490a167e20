/- The document's own answers on trees: how many there are, how deep, whether they are of their form. -/
import Derived.Test.YtiaaibblihebjaaDoorTree
namespace Go.Proofs.YtiaaibblihebjaaDoor
open Go.RowKit
set_option linter.unusedVariables false

mutual
def T.nodes : T → Nat
  | .mk kind _ _ k => if kind = 0 then 0 else nodesL k + 1
def nodesL : List T → Nat
  | [] => 0
  | t :: l => t.nodes + nodesL l
end
mutual
def T.depth : T → Nat
  | .mk kind _ _ k => if kind = 0 then 0 else depthL k + 1
def depthL : List T → Nat
  | [] => 0
  | t :: l => Max.max t.depth (depthL l)
end
theorem nodesL_snoc (l : List T) (k : T) : nodesL (l ++ [k]) = nodesL l + k.nodes := by
  induction l with
  | nil => simp [nodesL]
  | cons a l ih => simp [nodesL, ih]; omega
theorem depthL_snoc (l : List T) (k : T) : depthL (l ++ [k]) = Max.max (depthL l) k.depth := by
  induction l with
  | nil => simp [depthL]
  | cons a l ih => simp only [List.cons_append, depthL, ih]; omega
theorem T_depth_nodes : ∀ t : T, t.depth ≤ t.nodes := by
  intro t
  induction t using T.ind with
  | _ kind s n k ih =>
    have h : depthL k ≤ nodesL k := by
      induction k with
      | nil => simp [depthL]
      | cons a l ihl =>
        have h1 := ih a (by simp)
        have h2 := ihl (fun t ht => ih t (by simp [ht]))
        simp only [depthL, nodesL]
        omega
    unfold T.depth T.nodes
    split <;> omega
theorem depthL_nodesL (l : List T) : depthL l ≤ nodesL l := by
  induction l with
  | nil => simp [depthL]
  | cons a l ih => have := T_depth_nodes a; simp only [depthL, nodesL]; omega
theorem nodesL_take (l : List T) (i : Nat) : nodesL (l.take i) ≤ nodesL l := by
  induction l generalizing i with
  | nil => simp [nodesL]
  | cons a l ih => cases i with
    | zero => simp [nodesL]
    | succ i => simp [nodesL]; exact ih i
theorem nodesL_mem (l : List T) (t : T) (h : t ∈ l) : t.nodes ≤ nodesL l := by
  induction l with
  | nil => simp at h
  | cons a l ih =>
    simp only [List.mem_cons] at h
    simp only [nodesL]
    rcases h with rfl | h
    · omega
    · have := ih h; omega
theorem len_cap {w : World} {B : Nat} {t : T} {v : Value} (h : TIn w B t v) : t.k.length ≤ 9223372036854775807 := by
  obtain ⟨_, cap, _, h1, h2, _⟩ := h
  omega

end Go.Proofs.YtiaaibblihebjaaDoor
