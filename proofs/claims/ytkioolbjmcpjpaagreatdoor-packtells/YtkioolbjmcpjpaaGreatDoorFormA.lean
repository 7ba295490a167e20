/- The document's own answer: whether a tree is of its form. What is needed. -/
import Derived.Test.YtkioolbjmcpjpaaGreatDoorObsT
import Derived.Test.YtkioolbjmcpjpaaGreatDoorRefT
import Derived.Test.YtkioolbjmcpjpaaGreatDoorRefName
import Derived.Test.YtkioolbjmcpjpaaGreatDoorTermForm
import Derived.Deep.CutBlock
namespace Go.Proofs.YtkioolbjmcpjpaaGreatDoor
open Go.RowKit
set_option linter.unusedVariables false

/-- What a tree's own kind asks. -/
def headOk (kind : Int) (s : ByteArray) (n : Int) : Bool :=
  if kind = 2 ∨ kind = 5 ∨ kind = 12 then nameGo 0 (runesOf s) else if kind = 7 then dayB n else if kind = 11 then vB n
  else decide (kind = 1 ∨ kind = 3 ∨ kind = 4 ∨ kind = 6 ∨ kind = 8 ∨ kind = 13 ∨ kind = 14 ∨ kind = 15 ∨ kind = 16)
/-- Whether a part must be a number. -/
def partB (kind : Int) (nb : Bool) (i : Nat) : Bool := nb || (decide (i = 0) && (decide (kind = 6) || decide (kind = 8)))
mutual
def formT : T → Bool → Bool
  | .mk kind s n k, nb => headOk kind s n && ((decide (11 ≤ kind) == nb) && formTL kind nb 0 k)
def formTL (kind : Int) (nb : Bool) (i : Nat) : List T → Bool
  | [] => true
  | t :: l => formT t (partB kind nb i) && formTL kind nb (i + 1) l
end
mutual
/-- A tree whose texts are not too long. -/
def T.Sized : T → Prop
  | .mk _ s _ k => s.size ≤ 2147483648 ∧ SizedL k
def SizedL : List T → Prop
  | [] => True
  | t :: l => t.Sized ∧ SizedL l
end
theorem sizedL_mem : ∀ {l : List T}, SizedL l → ∀ t ∈ l, t.Sized := by
  intro l
  induction l with
  | nil => intro _ t h; simp at h
  | cons x l ih =>
    intro h t ht
    unfold SizedL at h
    simp only [List.mem_cons] at ht
    rcases ht with rfl | ht
    · exact h.1
    · exact ih h.2 t ht
theorem formTL_take (kind : Int) (nb : Bool) : ∀ (l : List T) (j i : Nat) (t : T), l[i]? = some t → formTL kind nb j (l.take (i + 1)) = (formTL kind nb j (l.take i) && formT t (partB kind nb (j + i))) := by
  intro l
  induction l with
  | nil => intro j i t h; simp at h
  | cons a l ih =>
    intro j i t h
    cases i with
    | zero => simp at h; subst h; simp [formTL]
    | succ i =>
      simp at h
      simp only [List.take_succ_cons, formTL]
      rw [ih (j + 1) i t h, Bool.and_assoc, show j + 1 + i = j + (i + 1) by omega]
theorem formTL_no (kind : Int) (nb : Bool) : ∀ (l : List T) (j i : Nat) (t : T), l[i]? = some t → formT t (partB kind nb (j + i)) = false → formTL kind nb j l = false := by
  intro l
  induction l with
  | nil => intro j i t h; simp at h
  | cons a l ih =>
    intro j i t h hf
    cases i with
    | zero => simp at h; subst h; simp only [formTL]; rw [Nat.add_zero] at hf; rw [hf]; rfl
    | succ i =>
      simp at h
      simp only [formTL]
      rw [ih (j + 1) i t h (by rw [show j + 1 + i = j + (i + 1) by omega]; exact hf)]
      simp
/-- A guarded operation that is passed over. -/
theorem quiet_skips {P : Program} {ops : Array Oper} {C : World → Prop} {Q : Act → Prop} {a : Act} {o : Oper} {rest : List Oper} (j d : Nat) (want b : Bool) (hg : o.guard = some (j, want)) (hd : (ops[j]?).bind (·.dst) = some d) (hv : a.tmps[d]? = some (.bool b)) (hb : b ≠ want) (hk : wpQuiet P ops C Q rest (a.put o.dst undef)) : wpQuiet P ops C Q (o :: rest) a :=
  BigFrame.wpQuiet_skip (by
    unfold Region.wanted yielded
    rw [hg]
    simp only [hd, Option.bind_some, hv]
    simpa using hb) hk
theorem quiet_undef {P : Program} {ops : Array Oper} {C : World → Prop} {Q : Act → Prop} {a : Act} {o : Oper} {rest : List Oper} (j d : Nat) (want : Bool) (hg : o.guard = some (j, want)) (hd : (ops[j]?).bind (·.dst) = some d) (hv : a.tmps[d]? = some undef) (hk : wpQuiet P ops C Q rest (a.put o.dst undef)) : wpQuiet P ops C Q (o :: rest) a :=
  BigFrame.wpQuiet_skip (by
    unfold Region.wanted yielded
    rw [hg]
    simp only [hd, Option.bind_some, hv]
    rfl) hk
/-- A guarded operation whose guard is met. -/
theorem quiet_met {P : Program} {ops : Array Oper} {C : World → Prop} {Q : Act → Prop} {a : Act} {o : Oper} {rest : List Oper} (j d : Nat) (want : Bool) (v : Value) (hg : o.guard = some (j, want)) (hd : (ops[j]?).bind (·.dst) = some d) (hv : a.tmps[d]? = some (.bool want)) (h : ∀ w, C w → (execOp a.eval o).run P w = .ok (.value v) w) (hk : wpQuiet P ops C Q rest (a.put o.dst v)) : wpQuiet P ops C Q (o :: rest) a :=
  quiet_runs v (by
    unfold Region.wanted yielded
    rw [hg]
    simp only [hd, Option.bind_some, hv]
    simp) h hk

end Go.Proofs.YtkioolbjmcpjpaaGreatDoor
