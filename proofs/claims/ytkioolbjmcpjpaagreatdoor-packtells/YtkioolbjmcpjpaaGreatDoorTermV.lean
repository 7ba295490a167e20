/- Contracts as values. -/
import Derived.Test.YtkioolbjmcpjpaaGreatDoorSameO
import Derived.Test.YtkioolbjmcpjpaaGreatDoorNames
namespace Go.Proofs.YtkioolbjmcpjpaaGreatDoor
open Go.RowKit
set_option linter.unusedVariables false

/-- A contract of package api's, or what is none. -/
inductive C where
  | zero
  | one (s : ByteArray)
  | give (c : C)
  | and (l r : C)
  | or (s : ByteArray) (l r : C)
  | scale (o : O) (c : C)
  | when (d : Int) (c : C)
  | iff (o : O) (l r : C)
  | odd (v : Value)

def C.val : C → Value
  | .zero => .iface 40 (.agg #[])
  | .one s => .iface 97 (.agg #[.string s])
  | .give c => .iface 99 (.agg #[c.val])
  | .and l r => .iface 101 (.agg #[l.val, r.val])
  | .or s l r => .iface 103 (.agg #[.string s, l.val, r.val])
  | .scale o c => .iface 107 (.agg #[o.val, c.val])
  | .when d c => .iface 109 (.agg #[.int .i64 d, c.val])
  | .iff o l r => .iface 111 (.agg #[o.val, l.val, r.val])
  | .odd v => v
/-- An interface value that is none of package api's contracts. -/
def StrangeC (v : Value) : Prop := v = .nilIface ∨ ∃ t x, v = .iface t x ∧ t ≠ 40 ∧ t ≠ 97 ∧ t ≠ 99 ∧ t ≠ 101 ∧ t ≠ 103 ∧ t ≠ 107 ∧ t ≠ 109 ∧ t ≠ 111
def C.Ok : C → Prop
  | .zero => True
  | .one s => s.size ≤ 2147483648
  | .give c => c.Ok
  | .and l r => l.Ok ∧ r.Ok
  | .or s l r => s.size ≤ 2147483648 ∧ l.Ok ∧ r.Ok
  | .scale o c => o.Ok ∧ c.Ok
  | .when d c => (-9223372036854775808 ≤ d ∧ d ≤ 9223372036854775807) ∧ c.Ok
  | .iff o l r => o.Ok ∧ l.Ok ∧ r.Ok
  | .odd v => StrangeC v
def C.kids : C → List C
  | .give c => [c]
  | .and l r => [l, r]
  | .or _ l r => [l, r]
  | .scale _ c => [c]
  | .when _ c => [c]
  | .iff _ l r => [l, r]
  | _ => []
def C.nums : C → List O
  | .scale o _ => [o]
  | .iff o _ _ => [o]
  | _ => []
def C.kind : C → Int
  | .zero => 1
  | .one _ => 2
  | .give _ => 3
  | .and _ _ => 4
  | .or _ _ _ => 5
  | .scale _ _ => 6
  | .when _ _ => 7
  | .iff _ _ _ => 8
  | .odd _ => 0
def C.text : C → ByteArray
  | .one s => s
  | .or s _ _ => s
  | _ => ByteArray.empty
def C.day : C → Int
  | .when d _ => d
  | _ => 0
theorem C.ind {P : C → Prop} (h : ∀ c, (∀ k ∈ c.kids, P k) → P c) : ∀ c, P c := by
  intro c
  induction c with
  | zero => exact h _ (by simp [C.kids])
  | one s => exact h _ (by simp [C.kids])
  | odd v => exact h _ (by simp [C.kids])
  | give c ih => exact h _ (by simpa [C.kids] using ih)
  | scale o c ih => exact h _ (by simpa [C.kids] using ih)
  | when d c ih => exact h _ (by simpa [C.kids] using ih)
  | and l r h1 h2 => exact h _ (by simp [C.kids]; exact ⟨h1, h2⟩)
  | or s l r h1 h2 => exact h _ (by simp [C.kids]; exact ⟨h1, h2⟩)
  | iff o l r h1 h2 => exact h _ (by simp [C.kids]; exact ⟨h1, h2⟩)
theorem C.Ok.kid {c k : C} (h : c.Ok) (hk : k ∈ c.kids) : k.Ok := by
  cases c <;> simp [C.kids] at hk
  case give => subst hk; exact h
  case scale => subst hk; exact h.2
  case when => subst hk; exact h.2
  case and => rcases hk with rfl | rfl; exact h.1; exact h.2
  case or => rcases hk with rfl | rfl; exact h.2.1; exact h.2.2
  case iff => rcases hk with rfl | rfl; exact h.2.1; exact h.2.2
theorem C.Ok.num {c : C} {k : O} (h : c.Ok) (hk : k ∈ c.nums) : k.Ok := by
  cases c <;> simp [C.nums] at hk
  case scale => subst hk; exact h.1
  case iff => subst hk; exact h.1
theorem C.Ok.text {c : C} (h : c.Ok) : c.text.size ≤ 2147483648 := by
  cases c <;> simp [C.text]
  case one => exact h
  case or => exact h.1
theorem C.val_iface (c : C) (h : c.Ok) : c.val = .nilIface ∨ ∃ t x, c.val = .iface t x := by
  cases c <;> try exact .inr ⟨_, _, rfl⟩
  case odd v => rcases h with rfl | ⟨t, x, rfl, _⟩; exact .inl rfl; exact .inr ⟨_, _, rfl⟩
theorem C.kids_two (c : C) : c.kids.length ≤ 2 := by cases c <;> simp [C.kids]
theorem C.nums_one (c : C) : c.nums.length ≤ 1 := by cases c <;> simp [C.nums]

/-! ### assertions -/
theorem zeroZero : (Tryz.prog.info? 40).map (·.zero) = some (some (.agg #[])) := by kernel_rfl
theorem isZero (v : Value) (xT : TypeId) (w : World) : (Instr.typeAssert (.iface 40 v) xT 40 true).run Tryz.prog w = .ok (.tuple #[v, .bool true]) w := assert_yes Tryz.underlying40 (by intro m h; cases h) v xT w
theorem notZero (t : TypeId) (v : Value) (xT : TypeId) (w : World) (h : t ≠ 40) : (Instr.typeAssert (.iface t v) xT 40 true).run Tryz.prog w = .ok (.tuple #[.agg #[], .bool false]) w := assert_no Tryz.underlying40 (by intro m h; cases h) zeroZero v xT w h
theorem nilZero (xT : TypeId) (w : World) : (Instr.typeAssert .nilIface xT 40 true).run Tryz.prog w = .ok (.tuple #[.agg #[], .bool false]) w := assert_nil Tryz.underlying40 (by intro m h; cases h) zeroZero xT w
theorem zeroOne : (Tryz.prog.info? 97).map (·.zero) = some (some (.agg #[.string ByteArray.empty])) := by kernel_rfl
theorem isOne (v : Value) (xT : TypeId) (w : World) : (Instr.typeAssert (.iface 97 v) xT 97 true).run Tryz.prog w = .ok (.tuple #[v, .bool true]) w := assert_yes Tryz.underlying97 (by intro m h; cases h) v xT w
theorem notOne (t : TypeId) (v : Value) (xT : TypeId) (w : World) (h : t ≠ 97) : (Instr.typeAssert (.iface t v) xT 97 true).run Tryz.prog w = .ok (.tuple #[.agg #[.string ByteArray.empty], .bool false]) w := assert_no Tryz.underlying97 (by intro m h; cases h) zeroOne v xT w h
theorem nilOne (xT : TypeId) (w : World) : (Instr.typeAssert .nilIface xT 97 true).run Tryz.prog w = .ok (.tuple #[.agg #[.string ByteArray.empty], .bool false]) w := assert_nil Tryz.underlying97 (by intro m h; cases h) zeroOne xT w
theorem zeroGive : (Tryz.prog.info? 99).map (·.zero) = some (some (.agg #[.nilIface])) := by kernel_rfl
theorem isGive (v : Value) (xT : TypeId) (w : World) : (Instr.typeAssert (.iface 99 v) xT 99 true).run Tryz.prog w = .ok (.tuple #[v, .bool true]) w := assert_yes Tryz.underlying99 (by intro m h; cases h) v xT w
theorem notGive (t : TypeId) (v : Value) (xT : TypeId) (w : World) (h : t ≠ 99) : (Instr.typeAssert (.iface t v) xT 99 true).run Tryz.prog w = .ok (.tuple #[.agg #[.nilIface], .bool false]) w := assert_no Tryz.underlying99 (by intro m h; cases h) zeroGive v xT w h
theorem nilGive (xT : TypeId) (w : World) : (Instr.typeAssert .nilIface xT 99 true).run Tryz.prog w = .ok (.tuple #[.agg #[.nilIface], .bool false]) w := assert_nil Tryz.underlying99 (by intro m h; cases h) zeroGive xT w
theorem zeroAnd : (Tryz.prog.info? 101).map (·.zero) = some (some (.agg #[.nilIface, .nilIface])) := by kernel_rfl
theorem isAnd (v : Value) (xT : TypeId) (w : World) : (Instr.typeAssert (.iface 101 v) xT 101 true).run Tryz.prog w = .ok (.tuple #[v, .bool true]) w := assert_yes Tryz.underlying101 (by intro m h; cases h) v xT w
theorem notAnd (t : TypeId) (v : Value) (xT : TypeId) (w : World) (h : t ≠ 101) : (Instr.typeAssert (.iface t v) xT 101 true).run Tryz.prog w = .ok (.tuple #[.agg #[.nilIface, .nilIface], .bool false]) w := assert_no Tryz.underlying101 (by intro m h; cases h) zeroAnd v xT w h
theorem nilAnd (xT : TypeId) (w : World) : (Instr.typeAssert .nilIface xT 101 true).run Tryz.prog w = .ok (.tuple #[.agg #[.nilIface, .nilIface], .bool false]) w := assert_nil Tryz.underlying101 (by intro m h; cases h) zeroAnd xT w
theorem zeroOr : (Tryz.prog.info? 103).map (·.zero) = some (some (.agg #[.string ByteArray.empty, .nilIface, .nilIface])) := by kernel_rfl
theorem isOr (v : Value) (xT : TypeId) (w : World) : (Instr.typeAssert (.iface 103 v) xT 103 true).run Tryz.prog w = .ok (.tuple #[v, .bool true]) w := assert_yes Tryz.underlying103 (by intro m h; cases h) v xT w
theorem notOr (t : TypeId) (v : Value) (xT : TypeId) (w : World) (h : t ≠ 103) : (Instr.typeAssert (.iface t v) xT 103 true).run Tryz.prog w = .ok (.tuple #[.agg #[.string ByteArray.empty, .nilIface, .nilIface], .bool false]) w := assert_no Tryz.underlying103 (by intro m h; cases h) zeroOr v xT w h
theorem nilOr (xT : TypeId) (w : World) : (Instr.typeAssert .nilIface xT 103 true).run Tryz.prog w = .ok (.tuple #[.agg #[.string ByteArray.empty, .nilIface, .nilIface], .bool false]) w := assert_nil Tryz.underlying103 (by intro m h; cases h) zeroOr xT w
theorem zeroScale : (Tryz.prog.info? 107).map (·.zero) = some (some (.agg #[.nilIface, .nilIface])) := by kernel_rfl
theorem isScale (v : Value) (xT : TypeId) (w : World) : (Instr.typeAssert (.iface 107 v) xT 107 true).run Tryz.prog w = .ok (.tuple #[v, .bool true]) w := assert_yes Tryz.underlying107 (by intro m h; cases h) v xT w
theorem notScale (t : TypeId) (v : Value) (xT : TypeId) (w : World) (h : t ≠ 107) : (Instr.typeAssert (.iface t v) xT 107 true).run Tryz.prog w = .ok (.tuple #[.agg #[.nilIface, .nilIface], .bool false]) w := assert_no Tryz.underlying107 (by intro m h; cases h) zeroScale v xT w h
theorem nilScale (xT : TypeId) (w : World) : (Instr.typeAssert .nilIface xT 107 true).run Tryz.prog w = .ok (.tuple #[.agg #[.nilIface, .nilIface], .bool false]) w := assert_nil Tryz.underlying107 (by intro m h; cases h) zeroScale xT w
theorem zeroWhen : (Tryz.prog.info? 109).map (·.zero) = some (some (.agg #[.int .i64 0, .nilIface])) := by kernel_rfl
theorem isWhen (v : Value) (xT : TypeId) (w : World) : (Instr.typeAssert (.iface 109 v) xT 109 true).run Tryz.prog w = .ok (.tuple #[v, .bool true]) w := assert_yes Tryz.underlying109 (by intro m h; cases h) v xT w
theorem notWhen (t : TypeId) (v : Value) (xT : TypeId) (w : World) (h : t ≠ 109) : (Instr.typeAssert (.iface t v) xT 109 true).run Tryz.prog w = .ok (.tuple #[.agg #[.int .i64 0, .nilIface], .bool false]) w := assert_no Tryz.underlying109 (by intro m h; cases h) zeroWhen v xT w h
theorem nilWhen (xT : TypeId) (w : World) : (Instr.typeAssert .nilIface xT 109 true).run Tryz.prog w = .ok (.tuple #[.agg #[.int .i64 0, .nilIface], .bool false]) w := assert_nil Tryz.underlying109 (by intro m h; cases h) zeroWhen xT w
theorem zeroIf : (Tryz.prog.info? 111).map (·.zero) = some (some (.agg #[.nilIface, .nilIface, .nilIface])) := by kernel_rfl
theorem isIf (v : Value) (xT : TypeId) (w : World) : (Instr.typeAssert (.iface 111 v) xT 111 true).run Tryz.prog w = .ok (.tuple #[v, .bool true]) w := assert_yes Tryz.underlying111 (by intro m h; cases h) v xT w
theorem notIf (t : TypeId) (v : Value) (xT : TypeId) (w : World) (h : t ≠ 111) : (Instr.typeAssert (.iface t v) xT 111 true).run Tryz.prog w = .ok (.tuple #[.agg #[.nilIface, .nilIface, .nilIface], .bool false]) w := assert_no Tryz.underlying111 (by intro m h; cases h) zeroIf v xT w h
theorem nilIf (xT : TypeId) (w : World) : (Instr.typeAssert .nilIface xT 111 true).run Tryz.prog w = .ok (.tuple #[.agg #[.nilIface, .nilIface, .nilIface], .bool false]) w := assert_nil Tryz.underlying111 (by intro m h; cases h) zeroIf xT w

/-- A list of contracts in memory. -/
def HasTerm (w : World) (a : Option Addr) (l : List C) : Prop := ∀ i c, l[i]? = some c → ∃ b, a = some ⟨b, 0, none⟩ ∧ w.cell? ⟨b, i, none⟩ = some c.val
theorem HasTerm.below {w w' : World} {a : Option Addr} {l : List C} (h : HasTerm w a l) (hb : Below w.heap.size w w') : HasTerm w' a l := by
  intro i o hi
  obtain ⟨b, e, hc⟩ := h i o hi
  exact ⟨b, e, (hb.cell (World.block_lt_of_cell? w _ hc)).trans hc⟩
theorem HasTerm.nil (w : World) : HasTerm w none [] := fun i o h => by simp at h
def headT (c : C) : Value := .agg #[.int .i64 c.kind, .string c.text, .int .i64 c.day]
/-- What open answers. -/
def OpenedT (w : World) (c : C) (e : Ending) (w' : World) : Prop :=
  ∃ a b, e = .returned (.tuple #[headT c, .slice a c.nums.length c.nums.length, .slice b c.kids.length c.kids.length]) ∧ HasObs w' a c.nums ∧ HasTerm w' b c.kids ∧ (∀ k x s, a = some ⟨k, x, s⟩ → w.heap.size ≤ k) ∧ (∀ k x s, b = some ⟨k, x, s⟩ → w.heap.size ≤ k) ∧ Below w.heap.size w w'

/-- Three results: a struct's cell, and two slots. -/
theorem results_cell_slots {P : Program} {fn : Func} {p q r : Tmp} {ty : TypeId} (h : fn.results = #[.cell p ty, .tmp q, .tmp r]) (tmps : Array Value) (w : World) (g : Nat) (t : TypeId) (cs : Array Value) (fr : Nat × Nat) (d : TypeDesc)
    (hp : tmps.getD p undef = .pointer (some ⟨g, 0, none⟩)) (hg : w.heap[g]? = some (.cells cs t fr))
    (hu : P.underlying ty = some d) (hd : (match d with | .struct _ | .array _ _ => true | _ => false) = true) (hi : (P.info? ty).map (·.size) = some cs.size) :
    (results fn tmps).run P w = .ok (.tuple #[.agg cs, tmps.getD q undef, tmps.getD r undef]) w := by
  have hp' : tmps[p]?.getD undef = .pointer (some ⟨g, 0, none⟩) := by simpa using hp
  simp [results, h, hp', asAddr, run_loadVar_row w g t ty cs fr d hg hu hd hi]
theorem infoHeadT : (Tryz.prog.info? 209).map (·.size) = some 3 := by kernel_rfl
theorem hasTerm_two (W : World) (l r : C) (b : Nat) (t : TypeId) (x y : Value) (hb : b = W.heap.size) (hl : l.val = x) (hr : r.val = y) : HasTerm (W.alloc (.cells #[x, y] t)) (some ⟨b, 0, none⟩) [l, r] := by
  intro i o hi
  subst hb
  refine ⟨_, rfl, ?_⟩
  rw [cell_of_row _ _ _ _ _ _ (heap_alloc_new _ _)]
  match i, hi with
  | 0, hi => simp at hi; subst hi; simp [hl]
  | 1, hi => simp at hi; subst hi; simp [hr]
theorem hasTerm_one (W : World) (l : C) (b : Nat) (t : TypeId) (x : Value) (hb : b = W.heap.size) (hl : l.val = x) : HasTerm (W.alloc (.cells #[x] t)) (some ⟨b, 0, none⟩) [l] := by
  intro i o hi
  subst hb
  refine ⟨_, rfl, ?_⟩
  rw [cell_of_row _ _ _ _ _ _ (heap_alloc_new _ _)]
  match i, hi with
  | 0, hi => simp at hi; subst hi; simp [hl]
theorem hasObs_blk {W : World} {b t : Nat} {x : Value} {o : O} (h : W.heap[b]? = some (.cells #[x] t (0, 0))) (e : o.val = x) : HasObs W (some ⟨b, 0, none⟩) [o] := by
  intro i o' hi
  refine ⟨_, rfl, ?_⟩
  rw [cell_of_row _ _ _ _ _ _ h]
  match i, hi with
  | 0, hi => simp at hi; subst hi; simp [e]
theorem hasTerm_blk {W : World} {b t : Nat} {x : Value} {c : C} (h : W.heap[b]? = some (.cells #[x] t (0, 0))) (e : c.val = x) : HasTerm W (some ⟨b, 0, none⟩) [c] := by
  intro i o' hi
  refine ⟨_, rfl, ?_⟩
  rw [cell_of_row _ _ _ _ _ _ h]
  match i, hi with
  | 0, hi => simp at hi; subst hi; simp [e]
theorem hasTerm_blk2 {W : World} {b t : Nat} {x y : Value} {c d : C} (h : W.heap[b]? = some (.cells #[x, y] t (0, 0))) (e : c.val = x) (e' : d.val = y) : HasTerm W (some ⟨b, 0, none⟩) [c, d] := by
  intro i o' hi
  refine ⟨_, rfl, ?_⟩
  rw [cell_of_row _ _ _ _ _ _ h]
  match i, hi with
  | 0, hi => simp at hi; subst hi; simp [e]
  | 1, hi => simp at hi; subst hi; simp [e']
theorem heap_at {W : World} {b t : Nat} {cs : Array Value} (hb : b = W.heap.size) : (W.alloc (.cells cs t)).heap[b]? = some (.cells cs t (0, 0)) := by subst hb; exact heap_alloc_new _ _
theorem O.val_cells' (o : O) (h : o.Ok) : o.val.cells = #[o.val] := by
  rcases o.val_iface h with e | ⟨t, x, e⟩ <;> rw [e] <;> rfl
theorem C.val_cells' (c : C) (h : c.Ok) : c.val.cells = #[c.val] := by
  rcases c.val_iface h with e | ⟨t, x, e⟩ <;> rw [e] <;> rfl
theorem C.val_one (c : C) (h : c.Ok) : c.val.oneCell' = true := by
  rcases c.val_iface h with e | ⟨t, x, e⟩ <;> rw [e] <;> rfl
/-- A value of one cell, whatever it is: what a walk must know of it. -/
structure One' (v : Value) : Prop where
  cells : v.cells = #[v]
  one : v.oneCell' = true
theorem O.one' (o : O) (h : o.Ok) : One' o.val := ⟨o.val_cells' h, o.val_one h⟩
theorem C.one' (c : C) (h : c.Ok) : One' c.val := ⟨c.val_cells' h, c.val_one h⟩
theorem One'.store {v : Value} (h : One' v) : ∀ w a m, (store a v m).run Tryz.prog w = stored Tryz.prog w a v m := fun w a m => run_store _ _ _ _ _ h.one

end Go.Proofs.YtkioolbjmcpjpaaGreatDoor
