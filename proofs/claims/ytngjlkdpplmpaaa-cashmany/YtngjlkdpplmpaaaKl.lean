/- Clone of the program's world: another one that knows the same. -/
import Derived.Test.YtngjlkdpplmpaaaKi
import Derived.Laws.Externs
namespace Go.Proofs.Ytngjlkdpplmpaaa.Wd
open Go.RowKit Go.Maps
set_option linter.unusedVariables false

section
variable {P : Program} (w : World)
theorem run_eqNilIn (d : Nat) (t k e : TypeId) (p : Option Nat) (h : P.underlying t = some (.map k e)) : (Op.equalIn (d + 1) t (.map p) (.map none)).run P w = .ok p.isNone w := by
  cases p <;> simp [Op.equalIn, run_underlying h]
theorem run_eqNil (t k e : TypeId) (p : Option Nat) (h : P.underlying t = some (.map k e)) : (binOp .eql t (.map p) (.map none)).run P w = .ok (.bool p.isNone) w := by
  simp only [binOp]
  simp [show Op.equal t (.map p) (.map none) = Op.equalIn (9999 + 1) t (.map p) (.map none) from rfl, run_eqNilIn w 9999 t k e p h]
theorem run_assertMap (t xT k e : TypeId) (v : Value) (h : P.underlying t = some (.map k e)) : (Instr.typeAssert (.iface t v) xT t false).run P w = .ok v w := by
  simp [Instr.typeAssert, run_underlying h, go_sem, Result.andThen]
theorem run_cloneMap {r : Nat} {es : Array MapEntry} {clock : Nat} (t : TypeId) (hb : w.heap[r]? = some (.map es clock)) :
    (Extern.MapsClone.clone #[.iface t (.map (some r))]).run P w = .ok (.iface t (.map (some w.heap.size))) (w.alloc (.map es clock)) := by
  have e : Extern.MapsClone.clone #[.iface t (.map (some r))] = (getObj r >>= fun o => match o with
      | .map entries clock => (newObj (.map entries clock) >>= fun n => pure (.iface t (.map (some n))))
      | _ => stuck "maps.clone: a map expected") := rfl
  rw [e]
  simp [MapKept.run_getObj_map hb, Result.andThen, go_sem]
end

set_option maxHeartbeats 1000000 in
set_option maxRecDepth 100000 in
theorem cloneF_any (b : Nat) (es : Array MapEntry) (clock : Nat) (w : World) (hb : w.heap[b]? = some (.map es clock)) :
    Calls Try.prog 45 #[.map (some b)] w fun e w' => e = .returned (.map (some w.heap.size)) ∧ w' = w.alloc (.map es clock) := by
  have hq := fun w => run_eqNil (P := Try.prog) w 86 _ _ (some b) Try.underlying86
  go_enter Try.func45, Try.ntmps45
  go_wp2
  rw [run_callFunc_extern Try.func76 (by kernel_rfl) (by kernel_rfl) (by kernel_rfl) (e := Extern.MapsClone.clone) (by kernel_rfl), run_cloneMap w _ hb]
  simp only [Result.andThen]
  rw [Oper.upon_value]
  go_wp2
  rw [run_assertMap _ 86 _ _ _ _ Try.underlying86]
  simp only [Result.andThen]
  rw [Oper.upon_value]
  go_wp2
  go_ret
  exact ⟨rfl, rfl⟩
set_option maxHeartbeats 1000000 in
set_option maxRecDepth 100000 in
theorem cloneC_any (b : Nat) (es : Array MapEntry) (clock : Nat) (w : World) (hb : w.heap[b]? = some (.map es clock)) :
    Calls Try.prog 46 #[.map (some b)] w fun e w' => e = .returned (.map (some w.heap.size)) ∧ w' = w.alloc (.map es clock) := by
  have hq := fun w => run_eqNil (P := Try.prog) w 87 _ _ (some b) Try.underlying87
  go_enter Try.func46, Try.ntmps46
  go_wp2
  rw [run_callFunc_extern Try.func76 (by kernel_rfl) (by kernel_rfl) (by kernel_rfl) (e := Extern.MapsClone.clone) (by kernel_rfl), run_cloneMap w _ hb]
  simp only [Result.andThen]
  rw [Oper.upon_value]
  go_wp2
  rw [run_assertMap _ 87 _ _ _ _ Try.underlying87]
  simp only [Result.andThen]
  rw [Oper.upon_value]
  go_wp2
  go_ret
  exact ⟨rfl, rfl⟩

def CloneAt (w w' : World) (K : KW) (b : Nat) : Prop := ∃ f c, KIn w' b f c K ∧ w.heap.size ≤ b ∧ w.heap.size ≤ f ∧ w.heap.size ≤ c ∧ Below w.heap.size w w'

theorem clone_kin (w : World) (K : KW) (es1 es2 : Array MapEntry) (k1 k2 : Nat) (hK : K.Ok) (h1 : es1.toList.map (fun e => (e.key, e.val)) = fixL K.F) (h2 : es2.toList.map (fun e => (e.key, e.val)) = chL K.C) :
    KIn (((w.alloc (.map es1 k1)).alloc (.map es2 k2)).alloc (.cells #[.map (some w.heap.size), .map (some (w.heap.size + 1))] 89)) (w.heap.size + 1 + 1) w.heap.size (w.heap.size + 1) K := by
  have e1 : (w.alloc (.map es1 k1)).heap.size = w.heap.size + 1 := size_alloc _ _
  have e2 : ((w.alloc (.map es1 k1)).alloc (.map es2 k2)).heap.size = w.heap.size + 1 + 1 := by rw [size_alloc, e1]
  refine ⟨?_, ⟨es1, k1, blk_old (blk_old (blk_new _ _)), h1⟩, ⟨es2, k2, ?_, h2⟩, by omega, hK⟩
  · rw [← e2]; exact blk_new _ _
  · apply blk_old
    rw [← e1]
    exact blk_new _ _

set_option maxHeartbeats 2000000 in
set_option maxRecDepth 100000 in
theorem clone_any (w : World) (p f c : Nat) (K : KW) (h : KIn w p f c K) :
    Calls Try.prog 25 #[.pointer (some ⟨p, 0, none⟩)] w fun e w' => ∃ b, e = .returned (.pointer (some ⟨b, 0, none⟩)) ∧ CloneAt w w' K b := by
  have c0 := h.cell0
  have c1 := h.cell1
  obtain ⟨es1, k1, hb1, hl1⟩ := h.fix
  obtain ⟨es2, k2, hb2, hl2⟩ := h.ch
  have c1b := cell_new c1 (.map es1 k1)
  have c0b := cell_new c0 (.map es1 k1)
  have HK : Hid (KIn w p f c K) := h
  have HL1 : Hid (es1.toList.map (fun e => (e.key, e.val)) = fixL K.F) := hl1
  have HL2 : Hid (es2.toList.map (fun e => (e.key, e.val)) = chL K.C) := hl2
  clear h hl1 hl2
  go_enter Try.func25, Try.ntmps25
  go_wp2_with fail
  go_region_with (first | (go_at_call 45; refine (cloneF_any f es1 k1 _ (by first | exact hb1 | exact blk_old hb1)).mono ?_; rintro e w' ⟨rfl, rfl⟩) | (go_at_call 46; refine (cloneC_any c es2 k2 _ (by first | exact hb2 | exact blk_old hb2)).mono ?_; rintro e w' ⟨rfl, rfl⟩))
  all_goals
    go_wp2
    go_ret
    refine ⟨w.heap.size + 1 + 1, rfl, w.heap.size, w.heap.size + 1, ?_, by omega, Nat.le_refl _, by omega, ?_⟩
    · exact (clone_kin w K es1 es2 k1 k2 HK.out.ok HL1.out HL2.out).drew
    · exact (below_alloc (below_alloc (below_alloc (Below.refl _ _) _) _) _).drew

end Go.Proofs.Ytngjlkdpplmpaaa.Wd
