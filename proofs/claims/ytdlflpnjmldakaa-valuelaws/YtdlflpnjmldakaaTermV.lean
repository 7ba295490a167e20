/- Contracts as values. -/
import Derived.Test.YtdlflpnjmldakaaSameO
import Derived.Test.YtdlflpnjmldakaaNames
namespace Go.Proofs.Ytdlflpnjmldakaa
open Go.RowKit
set_option linter.unusedVariables false

/-- A contract of package api's, or what is none. -/
inductive C where
  | zero
  | one (s : ByteArray)
  | give (c : C)
  | and (l r : C)
  | or (s : ByteArray) (l r : C)
  | scale (o : O) (c : C)
  | when (d : Int) (c : C)
  | iff (o : O) (l r : C)
  | odd (v : Value)

def C.kids : C → List C
  | .give c => [c]
  | .and l r => [l, r]
  | .or _ l r => [l, r]
  | .scale _ c => [c]
  | .when _ c => [c]
  | .iff _ l r => [l, r]
  | _ => []
def C.nums : C → List O
  | .scale o _ => [o]
  | .iff o _ _ => [o]
  | _ => []
def C.kind : C → Int
  | .zero => 1
  | .one _ => 2
  | .give _ => 3
  | .and _ _ => 4
  | .or _ _ _ => 5
  | .scale _ _ => 6
  | .when _ _ => 7
  | .iff _ _ _ => 8
  | .odd _ => 0
def C.text : C → ByteArray
  | .one s => s
  | .or s _ _ => s
  | _ => ByteArray.empty
def C.day : C → Int
  | .when d _ => d
  | _ => 0
theorem C.ind {P : C → Prop} (h : ∀ c, (∀ k ∈ c.kids, P k) → P c) : ∀ c, P c := by
  intro c
  induction c with
  | zero => exact h _ (by simp [C.kids])
  | one s => exact h _ (by simp [C.kids])
  | odd v => exact h _ (by simp [C.kids])
  | give c ih => exact h _ (by simpa [C.kids] using ih)
  | scale o c ih => exact h _ (by simpa [C.kids] using ih)
  | when d c ih => exact h _ (by simpa [C.kids] using ih)
  | and l r h1 h2 => exact h _ (by simp [C.kids]; exact ⟨h1, h2⟩)
  | or s l r h1 h2 => exact h _ (by simp [C.kids]; exact ⟨h1, h2⟩)
  | iff o l r h1 h2 => exact h _ (by simp [C.kids]; exact ⟨h1, h2⟩)
theorem C.kids_two (c : C) : c.kids.length ≤ 2 := by cases c <;> simp [C.kids]
theorem C.nums_one (c : C) : c.nums.length ≤ 1 := by cases c <;> simp [C.nums]

/-! ### assertions -/
theorem zeroOne : (Try.prog.info? 114).map (·.zero) = some (some (.agg #[.string ByteArray.empty])) := by kernel_rfl
theorem isOne (v : Value) (xT : TypeId) (w : World) : (Instr.typeAssert (.iface 114 v) xT 114 true).run Try.prog w = .ok (.tuple #[v, .bool true]) w := assert_yes Try.underlying114 (by intro m h; cases h) v xT w
theorem notOne (t : TypeId) (v : Value) (xT : TypeId) (w : World) (h : t ≠ 114) : (Instr.typeAssert (.iface t v) xT 114 true).run Try.prog w = .ok (.tuple #[.agg #[.string ByteArray.empty], .bool false]) w := assert_no Try.underlying114 (by intro m h; cases h) zeroOne v xT w h
theorem nilOne (xT : TypeId) (w : World) : (Instr.typeAssert .nilIface xT 114 true).run Try.prog w = .ok (.tuple #[.agg #[.string ByteArray.empty], .bool false]) w := assert_nil Try.underlying114 (by intro m h; cases h) zeroOne xT w
def headT (c : C) : Value := .agg #[.int .i64 c.kind, .string c.text, .int .i64 c.day]
/-- Three results: a struct's cell, and two slots. -/
theorem results_cell_slots {P : Program} {fn : Func} {p q r : Tmp} {ty : TypeId} (h : fn.results = #[.cell p ty, .tmp q, .tmp r]) (tmps : Array Value) (w : World) (g : Nat) (t : TypeId) (cs : Array Value) (fr : Nat × Nat) (d : TypeDesc)
    (hp : tmps.getD p undef = .pointer (some ⟨g, 0, none⟩)) (hg : w.heap[g]? = some (.cells cs t fr))
    (hu : P.underlying ty = some d) (hd : (match d with | .struct _ | .array _ _ => true | _ => false) = true) (hi : (P.info? ty).map (·.size) = some cs.size) :
    (results fn tmps).run P w = .ok (.tuple #[.agg cs, tmps.getD q undef, tmps.getD r undef]) w := by
  have hp' : tmps[p]?.getD undef = .pointer (some ⟨g, 0, none⟩) := by simpa using hp
  simp [results, h, hp', asAddr, run_loadVar_row w g t ty cs fr d hg hu hd hi]
theorem hasObs_blk {W : World} {b t : Nat} {x : Value} {o : O} (h : W.heap[b]? = some (.cells #[x] t (0, 0))) (e : o.val = x) : HasObs W (some ⟨b, 0, none⟩) [o] := by
  intro i o' hi
  refine ⟨_, rfl, ?_⟩
  rw [cell_of_row _ _ _ _ _ _ h]
  match i, hi with
  | 0, hi => simp at hi; subst hi; simp [e]
theorem heap_at {W : World} {b t : Nat} {cs : Array Value} (hb : b = W.heap.size) : (W.alloc (.cells cs t)).heap[b]? = some (.cells cs t (0, 0)) := by subst hb; exact heap_alloc_new _ _
theorem O.val_cells' (o : O) (h : o.Ok) : o.val.cells = #[o.val] := by
  rcases o.val_iface h with e | ⟨t, x, e⟩ <;> rw [e] <;> rfl
/-- A value of one cell, whatever it is: what a walk must know of it. -/
structure One' (v : Value) : Prop where
  cells : v.cells = #[v]
  one : v.oneCell' = true
theorem O.one' (o : O) (h : o.Ok) : One' o.val := ⟨o.val_cells' h, o.val_one h⟩
theorem One'.store {v : Value} (h : One' v) : ∀ w a m, (store a v m).run Try.prog w = stored Try.prog w a v m := fun w a m => run_store _ _ _ _ _ h.one

end Go.Proofs.Ytdlflpnjmldakaa
