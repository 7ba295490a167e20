/- The document's own answer: whether two trees are the same. -/
import Derived.Test.YtcdkejnnbbkecaaRefT
import Derived.Test.YtcdkejnnbbkecaaFormA
namespace Go.Proofs.Ytcdkejnnbbkecaa
open Go.RowKit
set_option linter.unusedVariables false

mutual
/-- Two trees are the same, and none of them is, or has, nothing. -/
def sameTr : T → T → Bool
  | .mk kind s n k, u => decide (kind ≠ 0) && (decide (kind = u.kind) && (decide (s = u.s) && (decide (n = u.n) && (decide (k.length = u.k.length) && sameTL k u.k))))
def sameTL : List T → List T → Bool
  | a :: l, m => match m with
    | b :: m => sameTr a b && sameTL l m
    | [] => true
  | [], _ => true
end
theorem sameTL_take (l m : List T) (i : Nat) (a b : T) (h1 : l[i]? = some a) (h2 : m[i]? = some b) : sameTL (l.take (i + 1)) (m.take (i + 1)) = (sameTL (l.take i) (m.take i) && sameTr a b) := by
  induction l generalizing m i with
  | nil => simp at h1
  | cons x l ih =>
    cases m with
    | nil => simp at h2
    | cons y m =>
      cases i with
      | zero => simp at h1 h2; subst h1 h2; simp [sameTL]
      | succ i =>
        simp at h1 h2
        simp only [List.take_succ_cons, sameTL]
        rw [ih m i h1 h2, Bool.and_assoc]
theorem sameTL_false (l m : List T) (i : Nat) (a b : T) (h1 : l[i]? = some a) (h2 : m[i]? = some b) (h : sameTr a b = false) : sameTL l m = false := by
  induction l generalizing m i with
  | nil => simp at h1
  | cons x l ih =>
    cases m with
    | nil => simp at h2
    | cons y m =>
      cases i with
      | zero => simp at h1 h2; subst h1 h2; simp [sameTL, h]
      | succ i =>
        simp at h1 h2
        simp only [sameTL]
        rw [ih m i h1 h2, Bool.and_false]

end Go.Proofs.Ytcdkejnnbbkecaa
