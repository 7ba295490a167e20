/- Whether two contracts are made alike: what package term answers. -/
import Derived.Test.YtcdkejnnbbkecaaTermSize
import Derived.Test.YtcdkejnnbbkecaaTermWalk
namespace Go.Proofs.Ytcdkejnnbbkecaa
open Go.RowKit
set_option linter.unusedVariables false

def sameC : C → C → Bool
  | .zero, .zero => true
  | .one s, .one t => decide (s = t)
  | .give a, .give b => sameC a b
  | .and l r, .and x y => sameC l x && sameC r y
  | .or s l r, .or t x y => decide (s = t) && (sameC l x && sameC r y)
  | .scale o a, .scale p b => sameO o p && sameC a b
  | .when d a, .when e b => decide (d = e) && sameC a b
  | .iff o l r, .iff p x y => sameO o p && (sameC l x && sameC r y)
  | _, _ => false
def sameCL : List C → List C → Bool
  | a :: l, b :: m => sameC a b && sameCL l m
  | _, _ => true
theorem sameC_head (a b : C) (h : ¬ (a.kind = b.kind ∧ a.text = b.text ∧ a.day = b.day)) : sameC a b = false := by
  cases a <;> cases b <;> simp [sameC, C.kind, C.text, C.day] at h ⊢ <;> simp [h]
theorem sameC_none (a b : C) (h : a.kind = 0) : sameC a b = false := by
  cases a <;> simp [C.kind] at h
  cases b <;> rfl
theorem sameC_kids (a b : C) (h0 : a.kind ≠ 0) (h : a.kind = b.kind ∧ a.text = b.text ∧ a.day = b.day) : a.nums.length = b.nums.length ∧ a.kids.length = b.kids.length ∧ sameC a b = (sameL a.nums b.nums && sameCL a.kids b.kids) := by
  cases a <;> cases b <;> simp [sameC, sameL, sameCL, C.kids, C.nums, C.kind, C.text, C.day] at h h0 ⊢ <;> simp [h]
theorem sameCL_take (l m : List C) (i : Nat) (a b : C) (h1 : l[i]? = some a) (h2 : m[i]? = some b) : sameCL (l.take (i + 1)) (m.take (i + 1)) = (sameCL (l.take i) (m.take i) && sameC a b) := by
  induction l generalizing m i with
  | nil => simp at h1
  | cons x l ih =>
    cases m with
    | nil => simp at h2
    | cons y m =>
      cases i with
      | zero => simp at h1 h2; subst h1 h2; simp [sameCL]
      | succ i =>
        simp at h1 h2
        simp only [List.take_succ_cons, sameCL]
        rw [ih m i h1 h2, Bool.and_assoc]
theorem sameCL_no (l m : List C) (i : Nat) (a b : C) (h1 : l[i]? = some a) (h2 : m[i]? = some b) (h : sameC a b = false) : sameCL l m = false := by
  induction l generalizing m i with
  | nil => simp at h1
  | cons x l ih =>
    cases m with
    | nil => simp at h2
    | cons y m =>
      cases i with
      | zero => simp at h1 h2; subst h1 h2; simp [sameCL, h]
      | succ i =>
        simp at h1 h2
        simp [sameCL, ih m i h1 h2]
end Go.Proofs.Ytcdkejnnbbkecaa
