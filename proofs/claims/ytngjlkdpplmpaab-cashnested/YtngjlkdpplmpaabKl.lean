/- Clone of the program's world: another one that knows the same. -/
import Derived.Test.YtngjlkdpplmpaabKi
import Derived.Laws.Externs
namespace Go.Proofs.Ytngjlkdpplmpaab.Wd
open Go.RowKit Go.Maps
set_option linter.unusedVariables false

section
variable {P : Program} (w : World)
theorem run_eqNilIn (d : Nat) (t k e : TypeId) (p : Option Nat) (h : P.underlying t = some (.map k e)) : (Op.equalIn (d + 1) t (.map p) (.map none)).run P w = .ok p.isNone w := by
  cases p <;> simp [Op.equalIn, run_underlying h]
theorem run_eqNil (t k e : TypeId) (p : Option Nat) (h : P.underlying t = some (.map k e)) : (binOp .eql t (.map p) (.map none)).run P w = .ok (.bool p.isNone) w := by
  simp only [binOp]
  simp [show Op.equal t (.map p) (.map none) = Op.equalIn (9999 + 1) t (.map p) (.map none) from rfl, run_eqNilIn w 9999 t k e p h]
theorem run_assertMap (t xT k e : TypeId) (v : Value) (h : P.underlying t = some (.map k e)) : (Instr.typeAssert (.iface t v) xT t false).run P w = .ok v w := by
  simp [Instr.typeAssert, run_underlying h, go_sem, Result.andThen]
theorem run_cloneMap {r : Nat} {es : Array MapEntry} {clock : Nat} (t : TypeId) (hb : w.heap[r]? = some (.map es clock)) :
    (Extern.MapsClone.clone #[.iface t (.map (some r))]).run P w = .ok (.iface t (.map (some w.heap.size))) (w.alloc (.map es clock)) := by
  have e : Extern.MapsClone.clone #[.iface t (.map (some r))] = (getObj r >>= fun o => match o with
      | .map entries clock => (newObj (.map entries clock) >>= fun n => pure (.iface t (.map (some n))))
      | _ => stuck "maps.clone: a map expected") := rfl
  rw [e]
  simp [MapKept.run_getObj_map hb, Result.andThen, go_sem]
end

def CloneAt (w w' : World) (K : KW) (b : Nat) : Prop := ∃ f c, KIn w' b f c K ∧ w.heap.size ≤ b ∧ w.heap.size ≤ f ∧ w.heap.size ≤ c ∧ Below w.heap.size w w'

theorem clone_kin (w : World) (K : KW) (es1 es2 : Array MapEntry) (k1 k2 : Nat) (hK : K.Ok) (h1 : es1.toList.map (fun e => (e.key, e.val)) = fixL K.F) (h2 : es2.toList.map (fun e => (e.key, e.val)) = chL K.C) :
    KIn (((w.alloc (.map es1 k1)).alloc (.map es2 k2)).alloc (.cells #[.map (some w.heap.size), .map (some (w.heap.size + 1))] 74)) (w.heap.size + 1 + 1) w.heap.size (w.heap.size + 1) K := by
  have e1 : (w.alloc (.map es1 k1)).heap.size = w.heap.size + 1 := size_alloc _ _
  have e2 : ((w.alloc (.map es1 k1)).alloc (.map es2 k2)).heap.size = w.heap.size + 1 + 1 := by rw [size_alloc, e1]
  refine ⟨?_, ⟨es1, k1, blk_old (blk_old (blk_new _ _)), h1⟩, ⟨es2, k2, ?_, h2⟩, by omega, hK⟩
  · rw [← e2]; exact blk_new _ _
  · apply blk_old
    rw [← e1]
    exact blk_new _ _

end Go.Proofs.Ytngjlkdpplmpaab.Wd
