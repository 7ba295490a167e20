/- A region that draws its order, whose operations hang on tests that are not known: one walk serves both ways of each test. -/
import Derived.Test.YtkioolbjmcpjpaaGreatDoorGrow
namespace Go.Proofs.YtkioolbjmcpjpaaGreatDoor
open Go.RowKit
set_option linter.unusedVariables false

/-- A value, if a test was met. -/
def mb (c : Bool) (v : Value) : Value := bif c then v else undef
theorem mb_true (v : Value) : mb true v = v := rfl
theorem mb_false (v : Value) : mb false v = undef := rfl
theorem want_at {ops : Array Oper} {a : Act} {o : Oper} (j d : Nat) (want b : Bool) (hg : o.guard = some (j, want)) (hd : (ops[j]?).bind (·.dst) = some d) (hv : a.tmps[d]? = some (.bool b)) : Region.wanted o (yielded ops a.tmps) = (b == want) := by
  unfold Region.wanted yielded
  rw [hg]
  simp only [hd, Option.bind_some, hv]
  cases b <;> cases want <;> rfl
theorem want_yes {ops : Array Oper} {a : Act} {o : Oper} (j d : Nat) (b : Bool) (hg : o.guard = some (j, true)) (hd : (ops[j]?).bind (·.dst) = some d) (hv : a.tmps[d]? = some (.bool b)) : Region.wanted o (yielded ops a.tmps) = b := by
  rw [want_at j d true b hg hd hv]; cases b <;> rfl
theorem want_no {ops : Array Oper} {a : Act} {o : Oper} (j d : Nat) (b : Bool) (hg : o.guard = some (j, false)) (hd : (ops[j]?).bind (·.dst) = some d) (hv : a.tmps[d]? = some (.bool b)) : Region.wanted o (yielded ops a.tmps) = !b := by
  rw [want_at j d false b hg hd hv]; cases b <;> rfl
theorem want_mb {ops : Array Oper} {a : Act} {o : Oper} (j d : Nat) (want c b : Bool) (hg : o.guard = some (j, want)) (hd : (ops[j]?).bind (·.dst) = some d) (hv : a.tmps[d]? = some (mb c (.bool b))) : Region.wanted o (yielded ops a.tmps) = (c && (b == want)) := by
  cases c
  · unfold Region.wanted yielded
    rw [hg]
    simp only [hd, Option.bind_some, hv]
    rfl
  · rw [want_at j d want b hg hd hv]; rfl
theorem want_mb_yes {ops : Array Oper} {a : Act} {o : Oper} (j d : Nat) (c b : Bool) (hg : o.guard = some (j, true)) (hd : (ops[j]?).bind (·.dst) = some d) (hv : a.tmps[d]? = some (mb c (.bool b))) : Region.wanted o (yielded ops a.tmps) = (c && b) := by
  rw [want_mb j d true c b hg hd hv]; cases b <;> rfl
theorem want_mb_no {ops : Array Oper} {a : Act} {o : Oper} (j d : Nat) (c b : Bool) (hg : o.guard = some (j, false)) (hd : (ops[j]?).bind (·.dst) = some d) (hv : a.tmps[d]? = some (mb c (.bool b))) : Region.wanted o (yielded ops a.tmps) = (c && !b) := by
  rw [want_mb j d false c b hg hd hv]; cases b <;> rfl
section
variable {P : Program} {ops : Array Oper} {C : World → Prop} {Q : Act → Prop} {a : Act} {o : Oper} {rest : List Oper}
theorem mb_runs (c : Bool) (v : Value) (hw : Region.wanted o (yielded ops a.tmps) = c) (h : c = true → ∀ w, C w → (execOp a.eval o).run P w = .ok (.value v) w) (hk : wpQuiet P ops C Q rest (a.put o.dst (mb c v))) : wpQuiet P ops C Q (o :: rest) a := by
  cases c
  · exact BigFrame.wpQuiet_skip hw hk
  · exact quiet_runs v hw (h rfl) hk
theorem mb_calls (c : Bool) (f : FuncId) (args : Array Value) (v : Value) (hw : Region.wanted o (yielded ops a.tmps) = c) (h : c = true → ∀ w, C w → (execOp a.eval o).run P w = .ok (.enter f args) w) (hc : c = true → ∀ w, C w → Calls P f args w (fun e w' => e = .returned v ∧ C w')) (hk : wpQuiet P ops C Q rest (a.put o.dst (mb c v))) : wpQuiet P ops C Q (o :: rest) a := by
  cases c
  · exact BigFrame.wpQuiet_skip hw hk
  · exact quiet_calls f args v hw (h rfl) (hc rfl) hk
end

end Go.Proofs.YtkioolbjmcpjpaaGreatDoor
