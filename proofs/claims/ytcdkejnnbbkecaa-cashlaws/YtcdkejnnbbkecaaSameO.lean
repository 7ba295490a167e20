/- Whether two numbers are made alike: what package obs answers. -/
import Derived.Test.YtcdkejnnbbkecaaSize
namespace Go.Proofs.Ytcdkejnnbbkecaa
open Go.RowKit
set_option linter.unusedVariables false

theorem toList_loop (b : ByteArray) : ∀ n i r, b.size - i = n → ByteArray.toList.loop b i r = r.reverse ++ b.data.toList.drop i := by
  have hs : b.data.toList.length = b.size := by simp
  intro n
  induction n with
  | zero =>
    intro i r h
    rw [ByteArray.toList.loop, if_neg (by omega), List.drop_eq_nil_of_le (by omega)]
    simp
  | succ n ih =>
    intro i r h
    have hi : i < b.size := by omega
    rw [ByteArray.toList.loop, if_pos hi, ih (i + 1) _ (by omega), List.drop_eq_getElem_cons (by omega : i < b.data.toList.length)]
    have hg : b.get! i = b.data.toList[i]'(by omega) := by
      cases b with
      | mk d => simp [ByteArray.get!]; exact getElem!_pos d i hi
    simp [hg]
theorem toList_inj {a b : ByteArray} (h : a.toList = b.toList) : a = b := by
  unfold ByteArray.toList at h
  rw [toList_loop a _ 0 [] rfl, toList_loop b _ 0 [] rfl] at h
  simp at h
  cases a; cases b
  simp at h
  rw [h]

def sameO : O → O → Bool
  | .const n, .const m => decide (n = m)
  | .fix s, .fix t => decide (s = t)
  | .add l r, .add x y => sameO l x && sameO r y
  | .neg o, .neg p => sameO o p
  | .mul l r, .mul x y => sameO l x && sameO r y
  | .max l r, .max x y => sameO l x && sameO r y
  | _, _ => false
def sameL : List O → List O → Bool
  | a :: l, b :: m => sameO a b && sameL l m
  | _, _ => true
theorem same_head (a b : O) (h : ¬ (a.kind = b.kind ∧ a.num = b.num ∧ a.name = b.name)) : sameO a b = false := by
  cases a <;> cases b <;> simp [sameO, O.kind, O.num, O.name] at h ⊢ <;> exact h
theorem same_none (a b : O) (h : a.kind = 0) : sameO a b = false := by
  cases a <;> simp [O.kind] at h
  cases b <;> rfl
theorem same_kids (a b : O) (h0 : a.kind ≠ 0) (h : a.kind = b.kind ∧ a.num = b.num ∧ a.name = b.name) : a.kids.length = b.kids.length ∧ sameO a b = sameL a.kids b.kids := by
  cases a <;> cases b <;> simp [sameO, sameL, O.kids, O.kind, O.num, O.name] at h h0 ⊢ <;> exact h
theorem sameL_take (l m : List O) (i : Nat) (a b : O) (h1 : l[i]? = some a) (h2 : m[i]? = some b) : sameL (l.take (i + 1)) (m.take (i + 1)) = (sameL (l.take i) (m.take i) && sameO a b) := by
  induction l generalizing m i with
  | nil => simp at h1
  | cons x l ih =>
    cases m with
    | nil => simp at h2
    | cons y m =>
      cases i with
      | zero => simp at h1 h2; subst h1 h2; simp [sameL]
      | succ i =>
        simp at h1 h2
        simp only [List.take_succ_cons, sameL]
        rw [ih m i h1 h2, Bool.and_assoc]
theorem sameL_no (l m : List O) (i : Nat) (a b : O) (h1 : l[i]? = some a) (h2 : m[i]? = some b) (h : sameO a b = false) : sameL l m = false := by
  induction l generalizing m i with
  | nil => simp at h1
  | cons x l ih =>
    cases m with
    | nil => simp at h2
    | cons y m =>
      cases i with
      | zero => simp at h1 h2; subst h1 h2; simp [sameL, h]
      | succ i =>
        simp at h1 h2
        simp [sameL, ih m i h1 h2]
end Go.Proofs.Ytcdkejnnbbkecaa
