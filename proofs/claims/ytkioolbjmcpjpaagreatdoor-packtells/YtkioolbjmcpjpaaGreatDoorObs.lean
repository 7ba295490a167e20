/- Numbers that may come to be known, as values, and what opens them. -/
import Derived.Test.YtkioolbjmcpjpaaGreatDoorBase
import Derived.Laws.Entries
namespace Go.Proofs.YtkioolbjmcpjpaaGreatDoor
open Go.RowKit
set_option linter.unusedVariables false

/-- A number of package api's, or what is none. -/
inductive O where
  | const (n : Int)
  | fix (s : ByteArray)
  | add (l r : O)
  | neg (o : O)
  | mul (l r : O)
  | max (l r : O)
  | odd (v : Value)

def O.val : O → Value
  | .const n => .iface 155 (.agg #[.int .i64 n])
  | .fix s => .iface 164 (.agg #[.string s])
  | .add l r => .iface 166 (.agg #[l.val, r.val])
  | .neg o => .iface 168 (.agg #[o.val])
  | .mul l r => .iface 169 (.agg #[l.val, r.val])
  | .max l r => .iface 170 (.agg #[l.val, r.val])
  | .odd v => v
/-- An interface value that is none of package api's numbers. -/
def Strange (v : Value) : Prop := v = .nilIface ∨ ∃ t x, v = .iface t x ∧ t ≠ 155 ∧ t ≠ 164 ∧ t ≠ 166 ∧ t ≠ 168 ∧ t ≠ 169 ∧ t ≠ 170
def O.Ok : O → Prop
  | .const n => -9223372036854775808 ≤ n ∧ n ≤ 9223372036854775807
  | .fix s => s.size ≤ 2147483648
  | .add l r => l.Ok ∧ r.Ok
  | .neg o => o.Ok
  | .mul l r => l.Ok ∧ r.Ok
  | .max l r => l.Ok ∧ r.Ok
  | .odd v => Strange v
def O.kids : O → List O
  | .add l r => [l, r]
  | .neg o => [o]
  | .mul l r => [l, r]
  | .max l r => [l, r]
  | _ => []
def O.kind : O → Int
  | .const _ => 1
  | .fix _ => 2
  | .add _ _ => 3
  | .neg _ => 4
  | .mul _ _ => 5
  | .max _ _ => 6
  | .odd _ => 0
def O.num : O → Int
  | .const n => n
  | _ => 0
def O.name : O → ByteArray
  | .fix s => s
  | _ => ByteArray.empty
theorem O.ind {P : O → Prop} (h : ∀ o, (∀ k ∈ o.kids, P k) → P o) : ∀ o, P o := by
  intro o
  induction o with
  | const n => exact h _ (by simp [O.kids])
  | fix s => exact h _ (by simp [O.kids])
  | odd v => exact h _ (by simp [O.kids])
  | neg o ih => exact h _ (by simpa [O.kids] using ih)
  | add l r h1 h2 => exact h _ (by simp [O.kids]; exact ⟨h1, h2⟩)
  | mul l r h1 h2 => exact h _ (by simp [O.kids]; exact ⟨h1, h2⟩)
  | max l r h1 h2 => exact h _ (by simp [O.kids]; exact ⟨h1, h2⟩)
theorem O.Ok.kid {o k : O} (h : o.Ok) (hk : k ∈ o.kids) : k.Ok := by
  cases o <;> simp [O.kids] at hk
  case neg => subst hk; exact h
  all_goals rcases hk with rfl | rfl; exact h.1; exact h.2
theorem O.val_iface (o : O) (h : o.Ok) : o.val = .nilIface ∨ ∃ t x, o.val = .iface t x := by
  cases o <;> try exact .inr ⟨_, _, rfl⟩
  case odd v => rcases h with rfl | ⟨t, x, rfl, _⟩; exact .inl rfl; exact .inr ⟨_, _, rfl⟩
theorem O.val_one (o : O) (h : o.Ok) : o.val.oneCell' = true := by
  rcases o.val_iface h with e | ⟨t, x, e⟩ <;> rw [e] <;> rfl

/-! ### assertions -/
theorem assert_yes {P : Program} {t : TypeId} {u : TypeDesc} (hu : P.underlying t = some u) (hn : ∀ m, u ≠ .interface m) (v : Value) (xT : TypeId) (w : World) :
    (Instr.typeAssert (.iface t v) xT t true).run P w = .ok (.tuple #[v, .bool true]) w := by
  cases u <;> first | (exfalso; exact hn _ rfl) | simp [Instr.typeAssert, run_underlying hu]
theorem assert_no {P : Program} {t t' : TypeId} {u : TypeDesc} {z : Value} (hu : P.underlying t' = some u) (hn : ∀ m, u ≠ .interface m) (hz : (P.info? t').map (·.zero) = some (some z)) (v : Value) (xT : TypeId) (w : World) (hne : t ≠ t') :
    (Instr.typeAssert (.iface t v) xT t' true).run P w = .ok (.tuple #[z, .bool false]) w := by
  obtain ⟨i, hi, hz⟩ := Option.map_eq_some_iff.1 hz
  cases u <;> first | (exfalso; exact hn _ rfl) | simp [Instr.typeAssert, run_underlying hu, zeroValue, typeInfo, hi, hz, hne]
theorem assert_nil {P : Program} {t' : TypeId} {u : TypeDesc} {z : Value} (hu : P.underlying t' = some u) (hn : ∀ m, u ≠ .interface m) (hz : (P.info? t').map (·.zero) = some (some z)) (xT : TypeId) (w : World) :
    (Instr.typeAssert .nilIface xT t' true).run P w = .ok (.tuple #[z, .bool false]) w := by
  obtain ⟨i, hi, hz⟩ := Option.map_eq_some_iff.1 hz
  cases u <;> first | (exfalso; exact hn _ rfl) | simp [Instr.typeAssert, run_underlying hu, zeroValue, typeInfo, hi, hz]

theorem zeroConst : (Tryz.prog.info? 155).map (·.zero) = some (some (.agg #[.int .i64 0])) := by kernel_rfl
theorem isConst (v : Value) (xT : TypeId) (w : World) : (Instr.typeAssert (.iface 155 v) xT 155 true).run Tryz.prog w = .ok (.tuple #[v, .bool true]) w := assert_yes Tryz.underlying155 (by intro m h; cases h) v xT w
theorem notConst (t : TypeId) (v : Value) (xT : TypeId) (w : World) (h : t ≠ 155) : (Instr.typeAssert (.iface t v) xT 155 true).run Tryz.prog w = .ok (.tuple #[.agg #[.int .i64 0], .bool false]) w := assert_no Tryz.underlying155 (by intro m h; cases h) zeroConst v xT w h
theorem nilConst (xT : TypeId) (w : World) : (Instr.typeAssert .nilIface xT 155 true).run Tryz.prog w = .ok (.tuple #[.agg #[.int .i64 0], .bool false]) w := assert_nil Tryz.underlying155 (by intro m h; cases h) zeroConst xT w
theorem zeroFix : (Tryz.prog.info? 164).map (·.zero) = some (some (.agg #[.string ByteArray.empty])) := by kernel_rfl
theorem isFix (v : Value) (xT : TypeId) (w : World) : (Instr.typeAssert (.iface 164 v) xT 164 true).run Tryz.prog w = .ok (.tuple #[v, .bool true]) w := assert_yes Tryz.underlying164 (by intro m h; cases h) v xT w
theorem notFix (t : TypeId) (v : Value) (xT : TypeId) (w : World) (h : t ≠ 164) : (Instr.typeAssert (.iface t v) xT 164 true).run Tryz.prog w = .ok (.tuple #[.agg #[.string ByteArray.empty], .bool false]) w := assert_no Tryz.underlying164 (by intro m h; cases h) zeroFix v xT w h
theorem nilFix (xT : TypeId) (w : World) : (Instr.typeAssert .nilIface xT 164 true).run Tryz.prog w = .ok (.tuple #[.agg #[.string ByteArray.empty], .bool false]) w := assert_nil Tryz.underlying164 (by intro m h; cases h) zeroFix xT w
theorem zeroAdd : (Tryz.prog.info? 166).map (·.zero) = some (some (.agg #[.nilIface, .nilIface])) := by kernel_rfl
theorem isAdd (v : Value) (xT : TypeId) (w : World) : (Instr.typeAssert (.iface 166 v) xT 166 true).run Tryz.prog w = .ok (.tuple #[v, .bool true]) w := assert_yes Tryz.underlying166 (by intro m h; cases h) v xT w
theorem notAdd (t : TypeId) (v : Value) (xT : TypeId) (w : World) (h : t ≠ 166) : (Instr.typeAssert (.iface t v) xT 166 true).run Tryz.prog w = .ok (.tuple #[.agg #[.nilIface, .nilIface], .bool false]) w := assert_no Tryz.underlying166 (by intro m h; cases h) zeroAdd v xT w h
theorem nilAdd (xT : TypeId) (w : World) : (Instr.typeAssert .nilIface xT 166 true).run Tryz.prog w = .ok (.tuple #[.agg #[.nilIface, .nilIface], .bool false]) w := assert_nil Tryz.underlying166 (by intro m h; cases h) zeroAdd xT w
theorem zeroNeg : (Tryz.prog.info? 168).map (·.zero) = some (some (.agg #[.nilIface])) := by kernel_rfl
theorem isNeg (v : Value) (xT : TypeId) (w : World) : (Instr.typeAssert (.iface 168 v) xT 168 true).run Tryz.prog w = .ok (.tuple #[v, .bool true]) w := assert_yes Tryz.underlying168 (by intro m h; cases h) v xT w
theorem notNeg (t : TypeId) (v : Value) (xT : TypeId) (w : World) (h : t ≠ 168) : (Instr.typeAssert (.iface t v) xT 168 true).run Tryz.prog w = .ok (.tuple #[.agg #[.nilIface], .bool false]) w := assert_no Tryz.underlying168 (by intro m h; cases h) zeroNeg v xT w h
theorem nilNeg (xT : TypeId) (w : World) : (Instr.typeAssert .nilIface xT 168 true).run Tryz.prog w = .ok (.tuple #[.agg #[.nilIface], .bool false]) w := assert_nil Tryz.underlying168 (by intro m h; cases h) zeroNeg xT w
theorem zeroMul : (Tryz.prog.info? 169).map (·.zero) = some (some (.agg #[.nilIface, .nilIface])) := by kernel_rfl
theorem isMul (v : Value) (xT : TypeId) (w : World) : (Instr.typeAssert (.iface 169 v) xT 169 true).run Tryz.prog w = .ok (.tuple #[v, .bool true]) w := assert_yes Tryz.underlying169 (by intro m h; cases h) v xT w
theorem notMul (t : TypeId) (v : Value) (xT : TypeId) (w : World) (h : t ≠ 169) : (Instr.typeAssert (.iface t v) xT 169 true).run Tryz.prog w = .ok (.tuple #[.agg #[.nilIface, .nilIface], .bool false]) w := assert_no Tryz.underlying169 (by intro m h; cases h) zeroMul v xT w h
theorem nilMul (xT : TypeId) (w : World) : (Instr.typeAssert .nilIface xT 169 true).run Tryz.prog w = .ok (.tuple #[.agg #[.nilIface, .nilIface], .bool false]) w := assert_nil Tryz.underlying169 (by intro m h; cases h) zeroMul xT w
theorem zeroMax : (Tryz.prog.info? 170).map (·.zero) = some (some (.agg #[.nilIface, .nilIface])) := by kernel_rfl
theorem isMax (v : Value) (xT : TypeId) (w : World) : (Instr.typeAssert (.iface 170 v) xT 170 true).run Tryz.prog w = .ok (.tuple #[v, .bool true]) w := assert_yes Tryz.underlying170 (by intro m h; cases h) v xT w
theorem notMax (t : TypeId) (v : Value) (xT : TypeId) (w : World) (h : t ≠ 170) : (Instr.typeAssert (.iface t v) xT 170 true).run Tryz.prog w = .ok (.tuple #[.agg #[.nilIface, .nilIface], .bool false]) w := assert_no Tryz.underlying170 (by intro m h; cases h) zeroMax v xT w h
theorem nilMax (xT : TypeId) (w : World) : (Instr.typeAssert .nilIface xT 170 true).run Tryz.prog w = .ok (.tuple #[.agg #[.nilIface, .nilIface], .bool false]) w := assert_nil Tryz.underlying170 (by intro m h; cases h) zeroMax xT w

/-- A list of numbers in memory. -/
def HasObs (w : World) (a : Option Addr) (l : List O) : Prop := ∀ i o, l[i]? = some o → ∃ b, a = some ⟨b, 0, none⟩ ∧ w.cell? ⟨b, i, none⟩ = some o.val
theorem HasObs.below {w w' : World} {a : Option Addr} {l : List O} (h : HasObs w a l) (hb : Below w.heap.size w w') : HasObs w' a l := by
  intro i o hi
  obtain ⟨b, e, hc⟩ := h i o hi
  exact ⟨b, e, (hb.cell (World.block_lt_of_cell? w _ hc)).trans hc⟩
theorem HasObs.nil (w : World) : HasObs w none [] := fun i o h => by simp at h
def headV (o : O) : Value := .agg #[.int .i64 o.kind, .int .i64 o.num, .string o.name]
/-- What open answers. -/
def Opened (w : World) (o : O) (e : Ending) (w' : World) : Prop :=
  ∃ a, e = .returned (.tuple #[headV o, .slice a o.kids.length o.kids.length]) ∧ HasObs w' a o.kids ∧ (∀ b x s, a = some ⟨b, x, s⟩ → w.heap.size ≤ b) ∧ Below w.heap.size w w'

/-- Two results: a struct's cell, and a slot. -/
theorem results_cell_slot {P : Program} {fn : Func} {p q : Tmp} {ty : TypeId} (h : fn.results = #[.cell p ty, .tmp q]) (tmps : Array Value) (w : World) (g : Nat) (t : TypeId) (cs : Array Value) (fr : Nat × Nat) (d : TypeDesc)
    (hp : tmps.getD p undef = .pointer (some ⟨g, 0, none⟩)) (hg : w.heap[g]? = some (.cells cs t fr))
    (hu : P.underlying ty = some d) (hd : (match d with | .struct _ | .array _ _ => true | _ => false) = true) (hi : (P.info? ty).map (·.size) = some cs.size) :
    (results fn tmps).run P w = .ok (.tuple #[.agg cs, tmps.getD q undef]) w := by
  have hp' : tmps[p]?.getD undef = .pointer (some ⟨g, 0, none⟩) := by simpa using hp
  simp [results, h, hp', asAddr, run_loadVar_row w g t ty cs fr d hg hu hd hi]
theorem infoHead : (Tryz.prog.info? 262).map (·.size) = some 3 := by kernel_rfl

theorem heap_keeps {w : World} {b : Nat} {x : Obj} (h : w.heap[b]? = some x) (o : Obj) : (w.alloc o).heap[b]? = some x :=
  (Below.heap_alloc w o b (Array.getElem?_eq_some_iff.1 h).1).trans h
theorem heap_drew {w : World} {b : Nat} {x : Obj} (h : w.heap[b]? = some x) : w.drew.heap[b]? = some x := h
theorem below_alloc {w w' : World} (h : Below w.heap.size w w') (o : Obj) : Below w.heap.size w (w'.alloc o) := h.alloc h.size o
theorem below_drew {B : Nat} {w w' : World} (h : Below B w w') : Below B w w'.drew := ⟨h.os, h.tape, h.output, h.size, h.block⟩
theorem hasObs_two (W : World) (l r : O) (b : Nat) (t : TypeId) (x y : Value) (hb : b = W.heap.size) (hl : l.val = x) (hr : r.val = y) : HasObs (W.alloc (.cells #[x, y] t)) (some ⟨b, 0, none⟩) [l, r] := by
  intro i o hi
  subst hb
  refine ⟨_, rfl, ?_⟩
  rw [cell_of_row _ _ _ _ _ _ (heap_alloc_new _ _)]
  match i, hi with
  | 0, hi => simp at hi; subst hi; simp [hl]
  | 1, hi => simp at hi; subst hi; simp [hr]
theorem hasObs_one (W : World) (l : O) (b : Nat) (t : TypeId) (x : Value) (hb : b = W.heap.size) (hl : l.val = x) : HasObs (W.alloc (.cells #[x] t)) (some ⟨b, 0, none⟩) [l] := by
  intro i o hi
  subst hb
  refine ⟨_, rfl, ?_⟩
  rw [cell_of_row _ _ _ _ _ _ (heap_alloc_new _ _)]
  match i, hi with
  | 0, hi => simp at hi; subst hi; simp [hl]

set_option maxHeartbeats 1000000 in
set_option maxRecDepth 100000 in
theorem open_const (n : Int) (w : World) : Calls Tryz.prog 147 #[(O.const n).val] w (Opened w (O.const n)) := by
  have h0 := fun v xT w => isConst v xT w
  · unfold O.val
    go_enter Tryz.func147, Tryz.ntmps147
    go_wp2
    refine bodyPost_ret (results_cell_slot rfl _ _ w.heap.size 262 #[.int .i64 1, .int .i64 n, .string ByteArray.empty] (0, 0) _ rfl ?_ Tryz.underlying262 rfl infoHead) rfl ?_
    · repeat first | exact heap_alloc_new _ _ | refine heap_drew ?_ | refine heap_keeps ?_ _
    · refine ⟨none, rfl, HasObs.nil _, (fun b x s h => by cases h), ?_⟩
      repeat first | exact Below.refl _ _ | refine below_drew ?_ | refine below_alloc ?_ _
set_option maxHeartbeats 1000000 in
set_option maxRecDepth 100000 in
theorem open_fix (s : ByteArray) (w : World) : Calls Tryz.prog 147 #[(O.fix s).val] w (Opened w (O.fix s)) := by
  have h0 := fun v xT w => notConst 164 v xT w (by decide)
  have h1 := fun v xT w => isFix v xT w
  · unfold O.val
    go_enter Tryz.func147, Tryz.ntmps147
    go_wp2
    refine bodyPost_ret (results_cell_slot rfl _ _ w.heap.size 262 #[.int .i64 2, .int .i64 0, .string s] (0, 0) _ rfl ?_ Tryz.underlying262 rfl infoHead) rfl ?_
    · repeat first | exact heap_alloc_new _ _ | refine heap_drew ?_ | refine heap_keeps ?_ _
    · refine ⟨none, rfl, HasObs.nil _, (fun b x s h => by cases h), ?_⟩
      repeat first | exact Below.refl _ _ | refine below_drew ?_ | refine below_alloc ?_ _
set_option maxHeartbeats 1000000 in
set_option maxRecDepth 100000 in
theorem open_add (l r : O) (w : World) (hl : l.Ok) (hr : r.Ok) : Calls Tryz.prog 147 #[(O.add l r).val] w (Opened w (O.add l r)) := by
  have h0 := fun v xT w => notConst 166 v xT w (by decide)
  have h1 := fun v xT w => notFix 166 v xT w (by decide)
  have h2 := fun v xT w => isAdd v xT w
  rcases l.val_iface hl with eL | ⟨tl, xl, eL⟩ <;> rcases r.val_iface hr with eR | ⟨tr, xr, eR⟩
  all_goals
    unfold O.val
    rw [eL, eR]
    go_enter Tryz.func147, Tryz.ntmps147
    go_wp2
    go_region
    go_wp2
    refine bodyPost_ret (results_cell_slot rfl _ _ w.heap.size 262 #[.int .i64 3, .int .i64 0, .string ByteArray.empty] (0, 0) _ rfl ?_ Tryz.underlying262 rfl infoHead) rfl ?_
    · repeat first | exact heap_alloc_new _ _ | refine heap_drew ?_ | refine heap_keeps ?_ _
    · refine ⟨some ⟨_, 0, none⟩, rfl, hasObs_two _ l r _ _ _ _ (by simp) eL eR, (fun b x s h => by cases h; omega), ?_⟩
      repeat first | exact Below.refl _ _ | refine below_drew ?_ | refine below_alloc ?_ _
set_option maxHeartbeats 1000000 in
set_option maxRecDepth 100000 in
theorem open_neg (o : O) (w : World) (hl : o.Ok) : Calls Tryz.prog 147 #[(O.neg o).val] w (Opened w (O.neg o)) := by
  have h0 := fun v xT w => notConst 168 v xT w (by decide)
  have h1 := fun v xT w => notFix 168 v xT w (by decide)
  have h2 := fun v xT w => notAdd 168 v xT w (by decide)
  have h3 := fun v xT w => isNeg v xT w
  rcases o.val_iface hl with eL | ⟨tl, xl, eL⟩
  all_goals
    unfold O.val
    rw [eL]
    go_enter Tryz.func147, Tryz.ntmps147
    go_wp2
    go_region
    go_wp2
    refine bodyPost_ret (results_cell_slot rfl _ _ w.heap.size 262 #[.int .i64 4, .int .i64 0, .string ByteArray.empty] (0, 0) _ rfl ?_ Tryz.underlying262 rfl infoHead) rfl ?_
    · repeat first | exact heap_alloc_new _ _ | refine heap_drew ?_ | refine heap_keeps ?_ _
    · refine ⟨some ⟨_, 0, none⟩, rfl, hasObs_one _ o _ _ _ (by simp) eL, (fun b x s h => by cases h; omega), ?_⟩
      repeat first | exact Below.refl _ _ | refine below_drew ?_ | refine below_alloc ?_ _
set_option maxHeartbeats 1000000 in
set_option maxRecDepth 100000 in
theorem open_mul (l r : O) (w : World) (hl : l.Ok) (hr : r.Ok) : Calls Tryz.prog 147 #[(O.mul l r).val] w (Opened w (O.mul l r)) := by
  have h0 := fun v xT w => notConst 169 v xT w (by decide)
  have h1 := fun v xT w => notFix 169 v xT w (by decide)
  have h2 := fun v xT w => notAdd 169 v xT w (by decide)
  have h3 := fun v xT w => notNeg 169 v xT w (by decide)
  have h4 := fun v xT w => isMul v xT w
  rcases l.val_iface hl with eL | ⟨tl, xl, eL⟩ <;> rcases r.val_iface hr with eR | ⟨tr, xr, eR⟩
  all_goals
    unfold O.val
    rw [eL, eR]
    go_enter Tryz.func147, Tryz.ntmps147
    go_wp2
    go_region
    go_wp2
    refine bodyPost_ret (results_cell_slot rfl _ _ w.heap.size 262 #[.int .i64 5, .int .i64 0, .string ByteArray.empty] (0, 0) _ rfl ?_ Tryz.underlying262 rfl infoHead) rfl ?_
    · repeat first | exact heap_alloc_new _ _ | refine heap_drew ?_ | refine heap_keeps ?_ _
    · refine ⟨some ⟨_, 0, none⟩, rfl, hasObs_two _ l r _ _ _ _ (by simp) eL eR, (fun b x s h => by cases h; omega), ?_⟩
      repeat first | exact Below.refl _ _ | refine below_drew ?_ | refine below_alloc ?_ _
set_option maxHeartbeats 1000000 in
set_option maxRecDepth 100000 in
theorem open_max (l r : O) (w : World) (hl : l.Ok) (hr : r.Ok) : Calls Tryz.prog 147 #[(O.max l r).val] w (Opened w (O.max l r)) := by
  have h0 := fun v xT w => notConst 170 v xT w (by decide)
  have h1 := fun v xT w => notFix 170 v xT w (by decide)
  have h2 := fun v xT w => notAdd 170 v xT w (by decide)
  have h3 := fun v xT w => notNeg 170 v xT w (by decide)
  have h4 := fun v xT w => notMul 170 v xT w (by decide)
  have h5 := fun v xT w => isMax v xT w
  rcases l.val_iface hl with eL | ⟨tl, xl, eL⟩ <;> rcases r.val_iface hr with eR | ⟨tr, xr, eR⟩
  all_goals
    unfold O.val
    rw [eL, eR]
    go_enter Tryz.func147, Tryz.ntmps147
    go_wp2
    go_region
    go_wp2
    refine bodyPost_ret (results_cell_slot rfl _ _ w.heap.size 262 #[.int .i64 6, .int .i64 0, .string ByteArray.empty] (0, 0) _ rfl ?_ Tryz.underlying262 rfl infoHead) rfl ?_
    · repeat first | exact heap_alloc_new _ _ | refine heap_drew ?_ | refine heap_keeps ?_ _
    · refine ⟨some ⟨_, 0, none⟩, rfl, hasObs_two _ l r _ _ _ _ (by simp) eL eR, (fun b x s h => by cases h; omega), ?_⟩
      repeat first | exact Below.refl _ _ | refine below_drew ?_ | refine below_alloc ?_ _
set_option maxHeartbeats 1000000 in
set_option maxRecDepth 100000 in
theorem open_odd (v : Value) (w : World) (h : Strange v) : Calls Tryz.prog 147 #[(O.odd v).val] w (Opened w (.odd v)) := by
  unfold O.val
  rcases h with rfl | ⟨t, x, rfl, n0, n1, n2, n3, n4, n5⟩
  · have h0 := fun xT w => nilConst xT w
    have h1 := fun xT w => nilFix xT w
    have h2 := fun xT w => nilAdd xT w
    have h3 := fun xT w => nilNeg xT w
    have h4 := fun xT w => nilMul xT w
    have h5 := fun xT w => nilMax xT w
    go_enter Tryz.func147, Tryz.ntmps147
    go_wp2
    refine bodyPost_ret (results_cell_slot rfl _ _ w.heap.size 262 #[.int .i64 0, .int .i64 0, .string ByteArray.empty] (0, 0) _ rfl ?_ Tryz.underlying262 rfl infoHead) rfl ?_
    · repeat first | exact heap_alloc_new _ _ | refine heap_drew ?_ | refine heap_keeps ?_ _
    · refine ⟨none, rfl, HasObs.nil _, (fun b x s h => by cases h), ?_⟩
      repeat first | exact Below.refl _ _ | refine below_drew ?_ | refine below_alloc ?_ _
  · have h0 := fun v xT w => notConst t v xT w n0
    have h1 := fun v xT w => notFix t v xT w n1
    have h2 := fun v xT w => notAdd t v xT w n2
    have h3 := fun v xT w => notNeg t v xT w n3
    have h4 := fun v xT w => notMul t v xT w n4
    have h5 := fun v xT w => notMax t v xT w n5
    go_enter Tryz.func147, Tryz.ntmps147
    go_wp2
    refine bodyPost_ret (results_cell_slot rfl _ _ w.heap.size 262 #[.int .i64 0, .int .i64 0, .string ByteArray.empty] (0, 0) _ rfl ?_ Tryz.underlying262 rfl infoHead) rfl ?_
    · repeat first | exact heap_alloc_new _ _ | refine heap_drew ?_ | refine heap_keeps ?_ _
    · refine ⟨none, rfl, HasObs.nil _, (fun b x s h => by cases h), ?_⟩
      repeat first | exact Below.refl _ _ | refine below_drew ?_ | refine below_alloc ?_ _

theorem open_any (o : O) (w : World) (h : o.Ok) : Calls Tryz.prog 147 #[o.val] w (Opened w o) := by
  cases o with
  | const n => exact open_const n w
  | fix s => exact open_fix s w
  | add l r => exact open_add l r w h.1 h.2
  | neg o => exact open_neg o w h
  | mul l r => exact open_mul l r w h.1 h.2
  | max l r => exact open_max l r w h.1 h.2
  | odd v => exact open_odd v w h

end Go.Proofs.YtkioolbjmcpjpaaGreatDoor
