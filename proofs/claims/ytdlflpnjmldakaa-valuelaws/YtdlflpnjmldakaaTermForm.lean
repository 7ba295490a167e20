/- What may stand in a contract: what package term answers. -/
import Derived.Test.YtdlflpnjmldakaaTermWalk
import Derived.Test.YtdlflpnjmldakaaTermSize
namespace Go.Proofs.Ytdlflpnjmldakaa
open Go.RowKit
set_option linter.unusedVariables false

def dayB (d : Int) : Bool := decide (0 ≤ d) && decide (d ≤ 10000)
def mayC : C → Bool
  | .one s => nameGo 0 (runesOf s)
  | .or s _ _ => nameGo 0 (runesOf s)
  | .when d _ => dayB d
  | .odd _ => false
  | _ => true
/-- A contract's own, without its parts. -/
def selfC (c : C) : Bool := mayC c && c.nums.all formB
def formC : C → Bool
  | .zero => true
  | .one s => nameGo 0 (runesOf s)
  | .give c => formC c
  | .and l r => formC l && formC r
  | .or s l r => nameGo 0 (runesOf s) && formC l && formC r
  | .scale o c => formB o && formC c
  | .when d c => dayB d && formC c
  | .iff o l r => formB o && formC l && formC r
  | .odd _ => false
theorem formC_pre (c : C) : c.pre.all selfC = formC c := by
  induction c <;> simp_all [C.pre, selfC, mayC, C.nums, formC, Bool.and_assoc]

theorem chk_form (o : O) : (chk o == 2) = !formB o := by
  unfold chk
  cases formB o
  · simp
  · rw [if_pos rfl]
    split <;> rfl

/-- What is kept while a contract's form is looked at: whether all was right so far. -/
def FormInv (V : Nat) (own : Nat → Prop) (st : Bool) (w : World) : Prop := own = (fun k => k = V) ∧ w.heap[V]? = some (.cells #[.bool st] 4 (0, 0))

theorem num_nodes {c : C} : ∀ o ∈ c.nums, o.nodes ≤ sumN c.nums := by
  cases c <;> simp [C.nums, sumN]

theorem foldl_and (l : List C) : ∀ st, l.foldl (fun st c => st && selfC c) st = (st && l.all selfC) := by
  induction l with
  | nil => intro st; simp
  | cons a l ih => intro st; simp [ih, Bool.and_assoc]

end Go.Proofs.Ytdlflpnjmldakaa
