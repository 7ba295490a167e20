/- What walks a contract with a function at hand: whatever that function keeps. -/
import Derived.Test.YtdlflpnjmldakaaTermOpen
import Derived.Shelf.Abstract
namespace Go.Proofs.Ytdlflpnjmldakaa
open Go.RowKit
set_option linter.unusedVariables false

/-- Nothing has turned but what is owned, and what is new. -/
structure Dyn (own : Nat → Prop) (w : World) (own' : Nat → Prop) (w' : World) : Prop where
  os : w'.os = w.os
  tape : w'.tape = w.tape
  output : w'.output = w.output
  size : w.heap.size ≤ w'.heap.size
  block : ∀ k, k < w.heap.size → ¬ own k → w'.heap[k]? = w.heap[k]?
  owned : ∀ k, own' k → own k ∨ w.heap.size ≤ k
theorem hidIn {p : Prop} (h : p) : Hid p := h
theorem Dyn.refl (own : Nat → Prop) (w : World) : Dyn own w own w := ⟨rfl, rfl, rfl, Nat.le_refl _, fun _ _ _ => rfl, fun _ h => .inl h⟩
theorem Dyn.of_below {own : Nat → Prop} {w w' : World} (h : Below w.heap.size w w') : Dyn own w own w' := ⟨h.os, h.tape, h.output, h.size, fun k hk _ => h.block k hk, fun _ h => .inl h⟩
theorem Dyn.trans {o1 o2 o3 : Nat → Prop} {u v w : World} (h : Dyn o1 u o2 v) (g : Dyn o2 v o3 w) : Dyn o1 u o3 w :=
  ⟨g.os.trans h.os, g.tape.trans h.tape, g.output.trans h.output, Nat.le_trans h.size g.size,
    fun k hk hn => (g.block k (Nat.lt_of_lt_of_le hk h.size) (fun e => by rcases h.owned k e with e | e; exact hn e; omega)).trans (h.block k hk hn),
    fun k hk => by
      rcases g.owned k hk with e | e
      · exact h.owned k e
      · have := h.size; exact .inr (by omega)⟩
theorem Dyn.below {o1 o2 : Nat → Prop} {w w' : World} {B : Nat} (h : Dyn o1 w o2 w') (hB : B ≤ w.heap.size) (ho : ∀ k, o1 k → B ≤ k) : Below B w w' :=
  ⟨h.os, h.tape, h.output, h.size, fun k hk => h.block k (by omega) (fun e => by have := ho k e; omega)⟩
/-- What a contract asks at itself. -/
def C.own (c : C) : Nat := sumN c.nums + 1
/-- What a contract asks in all. -/
def C.weight : C → Nat
  | .give c => c.weight + 1
  | .and l r => l.weight + r.weight + 1
  | .or _ l r => l.weight + r.weight + 1
  | .scale o c => o.nodes + c.weight + 1
  | .when _ c => c.weight + 1
  | .iff o l r => o.nodes + l.weight + r.weight + 1
  | _ => 1
def weightL : List C → Nat
  | [] => 0
  | k :: ks => k.weight + weightL ks
theorem weight_kids (c : C) : c.weight = c.own + weightL c.kids := by
  cases c <;> simp [C.weight, C.own, C.kids, C.nums, weightL, sumN] <;> omega
theorem weightL_snoc (l : List C) (k : C) : weightL (l ++ [k]) = weightL l + k.weight := by
  induction l with
  | nil => simp [weightL]
  | cons a l ih => simp [weightL, ih]; omega
theorem weightL_take (l : List C) (i : Nat) : weightL (l.take i) ≤ weightL l := by
  induction l generalizing i with
  | nil => simp [weightL]
  | cons a l ih => cases i with
    | zero => simp [weightL]
    | succ i => simp [weightL]; exact ih i
/-- A contract and all that stands in it, in the order of a walk. -/
def C.pre : C → List C
  | .give c => .give c :: c.pre
  | .and l r => .and l r :: (l.pre ++ r.pre)
  | .or s l r => .or s l r :: (l.pre ++ r.pre)
  | .scale o c => .scale o c :: c.pre
  | .when d c => .when d c :: c.pre
  | .iff o l r => .iff o l r :: (l.pre ++ r.pre)
  | c => [c]
def preL : List C → List C
  | [] => []
  | k :: ks => k.pre ++ preL ks
theorem pre_kids (c : C) : c.pre = c :: preL c.kids := by
  cases c <;> simp [C.pre, C.kids, preL]
theorem preL_snoc (l : List C) (k : C) : preL (l ++ [k]) = preL l ++ k.pre := by
  induction l with
  | nil => simp [preL]
  | cons a l ih => simp [preL, ih]

end Go.Proofs.Ytdlflpnjmldakaa
