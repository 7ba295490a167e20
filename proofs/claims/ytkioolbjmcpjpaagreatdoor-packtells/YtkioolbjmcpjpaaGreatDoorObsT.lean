/- The number of a tree, as the statements make it. -/
import Derived.Test.YtkioolbjmcpjpaaGreatDoorTree
namespace Go.Proofs.YtkioolbjmcpjpaaGreatDoor
open Go.RowKit
set_option linter.unusedVariables false

theorem val_cells (o : O) (h : o.Ok) : o.val.cells = #[o.val] := by
  rcases o.val_iface h with e | ⟨t, x, e⟩ <;> rw [e] <;> rfl
def ObsPost (w : World) (o : O) (e : Ending) (w' : World) : Prop := e = .returned o.val ∧ Below w.heap.size w w'
/-- A region whose operations yield one value in every world of a class. -/
theorem wp_region_class {P : Program} (C : World → Prop) {id : Nat} {Q : Exit → Act → World → Prop} {a : Act} {w : World} {l : List Oper} (hm : P.follows .mixedOrders = true) (hB : Region.lexB .any l.toArray = true) (hC : C w.drew)
    (h : wpQuiet P l.toArray C (fun a' => ∀ w', C w' → Q .normal a' w') l a) : (Code.region id l.toArray true).wp P Q a w :=
  wp_region_quiet (C := C) hm hB hC (by simpa using h)
theorem quiet_runs {P : Program} {ops : Array Oper} {C : World → Prop} {Q : Act → Prop} {a : Act} {o : Oper} {rest : List Oper} (v : Value) (hw : Region.wanted o (yielded ops a.tmps) = true) (h : ∀ w, C w → (execOp a.eval o).run P w = .ok (.value v) w) (hk : wpQuiet P ops C Q rest (a.put o.dst v)) : wpQuiet P ops C Q (o :: rest) a :=
  BigFrame.wpQuiet_want hw (fun K hK => ⟨v, fun w hw => by unfold Oper.quietAt; rw [h w hw]; exact ⟨rfl, rfl⟩, hK _ hk⟩)
theorem quiet_calls {P : Program} {ops : Array Oper} {C : World → Prop} {Q : Act → Prop} {a : Act} {o : Oper} {rest : List Oper} (f : FuncId) (args : Array Value) (v : Value) (hw : Region.wanted o (yielded ops a.tmps) = true) (h : ∀ w, C w → (execOp a.eval o).run P w = .ok (.enter f args) w) (hc : ∀ w, C w → Calls P f args w (fun e w' => e = .returned v ∧ C w')) (hk : wpQuiet P ops C Q rest (a.put o.dst v)) : wpQuiet P ops C Q (o :: rest) a :=
  BigFrame.wpQuiet_want hw (fun K hK => ⟨v, fun w hw => by unfold Oper.quietAt; rw [h w hw]; exact ⟨rfl, hc w hw⟩, hK _ hk⟩)
theorem obs_class {W w' : World} {t : T} {v : Value} {o : O} (ih : ∀ w v, TIn w 0 t v → Calls Tryz.prog 48 #[v] w (ObsPost w o)) (ht : TIn W 0 t v) (hw : Below W.heap.size W w') :
    Calls Tryz.prog 48 #[v] w' (fun e w'' => e = .returned o.val ∧ Below W.heap.size W w'') :=
  (ih w' v (ht.below hw)).mono (fun e w'' ⟨he, hb⟩ => ⟨he, hw.trans (hb.mono hw.size)⟩)

set_option maxHeartbeats 1000000 in
set_option maxRecDepth 100000 in
theorem obsT_add (k0 k1 : T) (s : ByteArray) (n : Int) (a : Option Addr) (cap : Nat) (w : World) (hcap : 2 ≤ cap) (hcm : cap ≤ 9223372036854775807) (hK : KAt w 0 [k0, k1] a 0) (o0 o1 : O) (hv0 : o0.Ok) (hv1 : o1.Ok)
    (ih0 : ∀ w v, TIn w 0 k0 v → Calls Tryz.prog 48 #[v] w (ObsPost w o0)) (ih1 : ∀ w v, TIn w 0 k1 v → Calls Tryz.prog 48 #[v] w (ObsPost w o1)) :
    Calls Tryz.prog 48 #[.agg #[.int .i64 13, .string s, .int .i64 n, .slice a 2 cap]] w (ObsPost w (.add o0 o1)) := by
  have hb : Below w.heap.size w (w.alloc (.cells #[.int .i64 13, .string s, .int .i64 n, .slice a 2 cap] 33)) := below_alloc (Below.refl _ _) _
  obtain ⟨b, o, ka, ca, rfl, c0, c1, c2, c3, t0⟩ := (hK.below hb).cells (j := 0) (t := k0) rfl
  obtain ⟨b', o', kb, cb, e, d0, d1, d2, d3, t1⟩ := (hK.below hb).cells (j := 1) (t := k1) rfl
  injection e with e
  injection e with e1 e2
  subst e1 e2
  simp only [Nat.zero_mul, Nat.add_zero, Nat.one_mul] at c0 c1 c2 c3 d0 d1 d2 d3
  have g3 : (w.alloc (.cells #[.int .i64 13, .string s, .int .i64 n, .slice (some ⟨b, o, none⟩) 2 cap] 33)).cell? ⟨w.heap.size, 3, none⟩ = some (.slice (some ⟨b, o, none⟩) 2 cap) := (cell_of_row _ _ _ _ _ _ (heap_alloc_new _ _)).trans rfl
  clear hK
  have HI0 : Hid (∀ w v, TIn w 0 k0 v → Calls Tryz.prog 48 #[v] w (ObsPost w o0)) := ih0
  have HI1 : Hid (∀ w v, TIn w 0 k1 v → Calls Tryz.prog 48 #[v] w (ObsPost w o1)) := ih1
  clear ih0 ih1
  go_enter Tryz.func48, Tryz.ntmps48
  go_wp2_with fail
  generalize w.alloc (.cells #[.int .i64 13, .string s, .int .i64 n, .slice (some ⟨b, o, none⟩) 2 cap] 33) = W at *
  have HT0 : Hid (TIn W 0 k0 _) := t0
  have HT1 : Hid (TIn W 0 k1 _) := t1
  have HB : Hid (Below w.heap.size w W) := hb
  have HLT := World.block_lt_of_cell? _ _ c0
  have HLW := World.block_lt_of_cell? _ _ g3
  have HF : Hid (∀ w', Below W.heap.size W w' → w'.cell? ⟨w.heap.size, 3, none⟩ = some (.slice (some ⟨b, o, none⟩) 2 cap) ∧ (w'.cell? ⟨b, o, none⟩ = some (.int .i64 k0.kind) ∧ w'.cell? ⟨b, o + 1, none⟩ = some (.string k0.s) ∧ w'.cell? ⟨b, o + 2, none⟩ = some (.int .i64 k0.n) ∧ w'.cell? ⟨b, o + 3, none⟩ = some (.slice ka k0.k.length ca)) ∧ (w'.cell? ⟨b, o + 4, none⟩ = some (.int .i64 k1.kind) ∧ w'.cell? ⟨b, o + 4 + 1, none⟩ = some (.string k1.s) ∧ w'.cell? ⟨b, o + 4 + 2, none⟩ = some (.int .i64 k1.n) ∧ w'.cell? ⟨b, o + 4 + 3, none⟩ = some (.slice kb k1.k.length cb))) := fun w' h =>
    ⟨(h.cell (p := ⟨w.heap.size, 3, none⟩) HLW).trans g3, ⟨(h.cell (p := ⟨b, o, none⟩) HLT).trans c0, (h.cell (p := ⟨b, o + 1, none⟩) HLT).trans c1, (h.cell (p := ⟨b, o + 2, none⟩) HLT).trans c2, (h.cell (p := ⟨b, o + 3, none⟩) HLT).trans c3⟩, ⟨(h.cell (p := ⟨b, o + 4, none⟩) HLT).trans d0, (h.cell (p := ⟨b, o + 4 + 1, none⟩) HLT).trans d1, (h.cell (p := ⟨b, o + 4 + 2, none⟩) HLT).trans d2, (h.cell (p := ⟨b, o + 4 + 3, none⟩) HLT).trans d3⟩⟩
  clear hb HLT HLW c0 c1 c2 c3 d0 d1 d2 d3 g3 t0 t1
  refine wp_region_class (fun w' => Below W.heap.size W w') (by kernel_rfl) (by kernel_rfl) (below_drew (Below.refl _ _)) ?_
  refine quiet_runs (.pointer (some ⟨w.heap.size, 3, none⟩)) rfl (fun w' hw' => ?_) ?_
  · go_simp
  simp only [Act.put, List.setIfInBounds_toArray, List.set_cons_zero, List.set_cons_succ]
  refine quiet_runs (.slice (some ⟨b, o, none⟩) 2 cap) rfl (fun w' hw' => ?_) ?_
  · obtain ⟨f0, ⟨f1, f2, f3, f4⟩, f5, f6, f7, f8⟩ := HF.out w' hw'
    go_simp
  simp only [Act.put, List.setIfInBounds_toArray, List.set_cons_zero, List.set_cons_succ]
  refine quiet_runs (.pointer (some ⟨b, o, none⟩)) rfl (fun w' hw' => ?_) ?_
  · go_simp
  simp only [Act.put, List.setIfInBounds_toArray, List.set_cons_zero, List.set_cons_succ]
  refine quiet_runs (.agg #[.int .i64 k0.kind, .string k0.s, .int .i64 k0.n, .slice ka k0.k.length ca]) rfl (fun w' hw' => ?_) ?_
  · obtain ⟨f0, ⟨f1, f2, f3, f4⟩, f5, f6, f7, f8⟩ := HF.out w' hw'
    go_simp
  simp only [Act.put, List.setIfInBounds_toArray, List.set_cons_zero, List.set_cons_succ]
  refine quiet_calls 48 #[.agg #[.int .i64 k0.kind, .string k0.s, .int .i64 k0.n, .slice ka k0.k.length ca]] o0.val rfl (fun w' hw' => ?_) (fun w' hw' => obs_class HI0.out HT0.out hw') ?_
  · go_simp
  simp only [Act.put, List.setIfInBounds_toArray, List.set_cons_zero, List.set_cons_succ]
  refine quiet_runs (.pointer (some ⟨w.heap.size, 3, none⟩)) rfl (fun w' hw' => ?_) ?_
  · go_simp
  simp only [Act.put, List.setIfInBounds_toArray, List.set_cons_zero, List.set_cons_succ]
  refine quiet_runs (.slice (some ⟨b, o, none⟩) 2 cap) rfl (fun w' hw' => ?_) ?_
  · obtain ⟨f0, ⟨f1, f2, f3, f4⟩, f5, f6, f7, f8⟩ := HF.out w' hw'
    go_simp
  simp only [Act.put, List.setIfInBounds_toArray, List.set_cons_zero, List.set_cons_succ]
  refine quiet_runs (.pointer (some ⟨b, o + 4, none⟩)) rfl (fun w' hw' => ?_) ?_
  · go_simp
  simp only [Act.put, List.setIfInBounds_toArray, List.set_cons_zero, List.set_cons_succ]
  refine quiet_runs (.agg #[.int .i64 k1.kind, .string k1.s, .int .i64 k1.n, .slice kb k1.k.length cb]) rfl (fun w' hw' => ?_) ?_
  · obtain ⟨f0, ⟨f1, f2, f3, f4⟩, f5, f6, f7, f8⟩ := HF.out w' hw'
    go_simp
  simp only [Act.put, List.setIfInBounds_toArray, List.set_cons_zero, List.set_cons_succ]
  refine quiet_calls 48 #[.agg #[.int .i64 k1.kind, .string k1.s, .int .i64 k1.n, .slice kb k1.k.length cb]] o1.val rfl (fun w' hw' => ?_) (fun w' hw' => obs_class HI1.out HT1.out hw') ?_
  · go_simp
  simp only [Act.put, List.setIfInBounds_toArray, List.set_cons_zero, List.set_cons_succ]
  refine quiet_runs (.agg #[o0.val, o1.val]) rfl (fun w' hw' => ?_) ?_
  · rcases o0.val_iface hv0 with e | ⟨t, x, e⟩ <;> rcases o1.val_iface hv1 with f | ⟨u, y, f⟩ <;> rw [e, f] <;> go_simp
  simp only [Act.put, List.setIfInBounds_toArray, List.set_cons_zero, List.set_cons_succ]
  refine quiet_runs (.iface 166 (.agg #[o0.val, o1.val])) rfl (fun w' hw' => ?_) ?_
  · go_simp
  simp only [Act.put, List.setIfInBounds_toArray, List.set_cons_zero, List.set_cons_succ]
  refine quiet_runs (.iface 166 (.agg #[o0.val, o1.val])) rfl (fun w' hw' => ?_) ?_
  · go_simp
  simp only [Act.put, List.setIfInBounds_toArray, List.set_cons_zero, List.set_cons_succ]
  refine wpQuiet_nil ?_
  intro w' hw'
  go_wp2_with fail
  go_ret
  exact ⟨rfl, HB.out.trans (hw'.mono HB.out.size)⟩

set_option maxHeartbeats 1000000 in
set_option maxRecDepth 100000 in
theorem obsT_mul (k0 k1 : T) (s : ByteArray) (n : Int) (a : Option Addr) (cap : Nat) (w : World) (hcap : 2 ≤ cap) (hcm : cap ≤ 9223372036854775807) (hK : KAt w 0 [k0, k1] a 0) (o0 o1 : O) (hv0 : o0.Ok) (hv1 : o1.Ok)
    (ih0 : ∀ w v, TIn w 0 k0 v → Calls Tryz.prog 48 #[v] w (ObsPost w o0)) (ih1 : ∀ w v, TIn w 0 k1 v → Calls Tryz.prog 48 #[v] w (ObsPost w o1)) :
    Calls Tryz.prog 48 #[.agg #[.int .i64 15, .string s, .int .i64 n, .slice a 2 cap]] w (ObsPost w (.mul o0 o1)) := by
  have hb : Below w.heap.size w (w.alloc (.cells #[.int .i64 15, .string s, .int .i64 n, .slice a 2 cap] 33)) := below_alloc (Below.refl _ _) _
  obtain ⟨b, o, ka, ca, rfl, c0, c1, c2, c3, t0⟩ := (hK.below hb).cells (j := 0) (t := k0) rfl
  obtain ⟨b', o', kb, cb, e, d0, d1, d2, d3, t1⟩ := (hK.below hb).cells (j := 1) (t := k1) rfl
  injection e with e
  injection e with e1 e2
  subst e1 e2
  simp only [Nat.zero_mul, Nat.add_zero, Nat.one_mul] at c0 c1 c2 c3 d0 d1 d2 d3
  have g3 : (w.alloc (.cells #[.int .i64 15, .string s, .int .i64 n, .slice (some ⟨b, o, none⟩) 2 cap] 33)).cell? ⟨w.heap.size, 3, none⟩ = some (.slice (some ⟨b, o, none⟩) 2 cap) := (cell_of_row _ _ _ _ _ _ (heap_alloc_new _ _)).trans rfl
  clear hK
  have HI0 : Hid (∀ w v, TIn w 0 k0 v → Calls Tryz.prog 48 #[v] w (ObsPost w o0)) := ih0
  have HI1 : Hid (∀ w v, TIn w 0 k1 v → Calls Tryz.prog 48 #[v] w (ObsPost w o1)) := ih1
  clear ih0 ih1
  go_enter Tryz.func48, Tryz.ntmps48
  go_wp2_with fail
  generalize w.alloc (.cells #[.int .i64 15, .string s, .int .i64 n, .slice (some ⟨b, o, none⟩) 2 cap] 33) = W at *
  have HT0 : Hid (TIn W 0 k0 _) := t0
  have HT1 : Hid (TIn W 0 k1 _) := t1
  have HB : Hid (Below w.heap.size w W) := hb
  have HLT := World.block_lt_of_cell? _ _ c0
  have HLW := World.block_lt_of_cell? _ _ g3
  have HF : Hid (∀ w', Below W.heap.size W w' → w'.cell? ⟨w.heap.size, 3, none⟩ = some (.slice (some ⟨b, o, none⟩) 2 cap) ∧ (w'.cell? ⟨b, o, none⟩ = some (.int .i64 k0.kind) ∧ w'.cell? ⟨b, o + 1, none⟩ = some (.string k0.s) ∧ w'.cell? ⟨b, o + 2, none⟩ = some (.int .i64 k0.n) ∧ w'.cell? ⟨b, o + 3, none⟩ = some (.slice ka k0.k.length ca)) ∧ (w'.cell? ⟨b, o + 4, none⟩ = some (.int .i64 k1.kind) ∧ w'.cell? ⟨b, o + 4 + 1, none⟩ = some (.string k1.s) ∧ w'.cell? ⟨b, o + 4 + 2, none⟩ = some (.int .i64 k1.n) ∧ w'.cell? ⟨b, o + 4 + 3, none⟩ = some (.slice kb k1.k.length cb))) := fun w' h =>
    ⟨(h.cell (p := ⟨w.heap.size, 3, none⟩) HLW).trans g3, ⟨(h.cell (p := ⟨b, o, none⟩) HLT).trans c0, (h.cell (p := ⟨b, o + 1, none⟩) HLT).trans c1, (h.cell (p := ⟨b, o + 2, none⟩) HLT).trans c2, (h.cell (p := ⟨b, o + 3, none⟩) HLT).trans c3⟩, ⟨(h.cell (p := ⟨b, o + 4, none⟩) HLT).trans d0, (h.cell (p := ⟨b, o + 4 + 1, none⟩) HLT).trans d1, (h.cell (p := ⟨b, o + 4 + 2, none⟩) HLT).trans d2, (h.cell (p := ⟨b, o + 4 + 3, none⟩) HLT).trans d3⟩⟩
  clear hb HLT HLW c0 c1 c2 c3 d0 d1 d2 d3 g3 t0 t1
  refine wp_region_class (fun w' => Below W.heap.size W w') (by kernel_rfl) (by kernel_rfl) (below_drew (Below.refl _ _)) ?_
  refine quiet_runs (.pointer (some ⟨w.heap.size, 3, none⟩)) rfl (fun w' hw' => ?_) ?_
  · go_simp
  simp only [Act.put, List.setIfInBounds_toArray, List.set_cons_zero, List.set_cons_succ]
  refine quiet_runs (.slice (some ⟨b, o, none⟩) 2 cap) rfl (fun w' hw' => ?_) ?_
  · obtain ⟨f0, ⟨f1, f2, f3, f4⟩, f5, f6, f7, f8⟩ := HF.out w' hw'
    go_simp
  simp only [Act.put, List.setIfInBounds_toArray, List.set_cons_zero, List.set_cons_succ]
  refine quiet_runs (.pointer (some ⟨b, o, none⟩)) rfl (fun w' hw' => ?_) ?_
  · go_simp
  simp only [Act.put, List.setIfInBounds_toArray, List.set_cons_zero, List.set_cons_succ]
  refine quiet_runs (.agg #[.int .i64 k0.kind, .string k0.s, .int .i64 k0.n, .slice ka k0.k.length ca]) rfl (fun w' hw' => ?_) ?_
  · obtain ⟨f0, ⟨f1, f2, f3, f4⟩, f5, f6, f7, f8⟩ := HF.out w' hw'
    go_simp
  simp only [Act.put, List.setIfInBounds_toArray, List.set_cons_zero, List.set_cons_succ]
  refine quiet_calls 48 #[.agg #[.int .i64 k0.kind, .string k0.s, .int .i64 k0.n, .slice ka k0.k.length ca]] o0.val rfl (fun w' hw' => ?_) (fun w' hw' => obs_class HI0.out HT0.out hw') ?_
  · go_simp
  simp only [Act.put, List.setIfInBounds_toArray, List.set_cons_zero, List.set_cons_succ]
  refine quiet_runs (.pointer (some ⟨w.heap.size, 3, none⟩)) rfl (fun w' hw' => ?_) ?_
  · go_simp
  simp only [Act.put, List.setIfInBounds_toArray, List.set_cons_zero, List.set_cons_succ]
  refine quiet_runs (.slice (some ⟨b, o, none⟩) 2 cap) rfl (fun w' hw' => ?_) ?_
  · obtain ⟨f0, ⟨f1, f2, f3, f4⟩, f5, f6, f7, f8⟩ := HF.out w' hw'
    go_simp
  simp only [Act.put, List.setIfInBounds_toArray, List.set_cons_zero, List.set_cons_succ]
  refine quiet_runs (.pointer (some ⟨b, o + 4, none⟩)) rfl (fun w' hw' => ?_) ?_
  · go_simp
  simp only [Act.put, List.setIfInBounds_toArray, List.set_cons_zero, List.set_cons_succ]
  refine quiet_runs (.agg #[.int .i64 k1.kind, .string k1.s, .int .i64 k1.n, .slice kb k1.k.length cb]) rfl (fun w' hw' => ?_) ?_
  · obtain ⟨f0, ⟨f1, f2, f3, f4⟩, f5, f6, f7, f8⟩ := HF.out w' hw'
    go_simp
  simp only [Act.put, List.setIfInBounds_toArray, List.set_cons_zero, List.set_cons_succ]
  refine quiet_calls 48 #[.agg #[.int .i64 k1.kind, .string k1.s, .int .i64 k1.n, .slice kb k1.k.length cb]] o1.val rfl (fun w' hw' => ?_) (fun w' hw' => obs_class HI1.out HT1.out hw') ?_
  · go_simp
  simp only [Act.put, List.setIfInBounds_toArray, List.set_cons_zero, List.set_cons_succ]
  refine quiet_runs (.agg #[o0.val, o1.val]) rfl (fun w' hw' => ?_) ?_
  · rcases o0.val_iface hv0 with e | ⟨t, x, e⟩ <;> rcases o1.val_iface hv1 with f | ⟨u, y, f⟩ <;> rw [e, f] <;> go_simp
  simp only [Act.put, List.setIfInBounds_toArray, List.set_cons_zero, List.set_cons_succ]
  refine quiet_runs (.iface 169 (.agg #[o0.val, o1.val])) rfl (fun w' hw' => ?_) ?_
  · go_simp
  simp only [Act.put, List.setIfInBounds_toArray, List.set_cons_zero, List.set_cons_succ]
  refine quiet_runs (.iface 169 (.agg #[o0.val, o1.val])) rfl (fun w' hw' => ?_) ?_
  · go_simp
  simp only [Act.put, List.setIfInBounds_toArray, List.set_cons_zero, List.set_cons_succ]
  refine wpQuiet_nil ?_
  intro w' hw'
  go_wp2_with fail
  go_ret
  exact ⟨rfl, HB.out.trans (hw'.mono HB.out.size)⟩

set_option maxHeartbeats 1000000 in
set_option maxRecDepth 100000 in
theorem obsT_max (k0 k1 : T) (s : ByteArray) (n : Int) (a : Option Addr) (cap : Nat) (w : World) (hcap : 2 ≤ cap) (hcm : cap ≤ 9223372036854775807) (hK : KAt w 0 [k0, k1] a 0) (o0 o1 : O) (hv0 : o0.Ok) (hv1 : o1.Ok)
    (ih0 : ∀ w v, TIn w 0 k0 v → Calls Tryz.prog 48 #[v] w (ObsPost w o0)) (ih1 : ∀ w v, TIn w 0 k1 v → Calls Tryz.prog 48 #[v] w (ObsPost w o1)) :
    Calls Tryz.prog 48 #[.agg #[.int .i64 16, .string s, .int .i64 n, .slice a 2 cap]] w (ObsPost w (.max o0 o1)) := by
  have hb : Below w.heap.size w (w.alloc (.cells #[.int .i64 16, .string s, .int .i64 n, .slice a 2 cap] 33)) := below_alloc (Below.refl _ _) _
  obtain ⟨b, o, ka, ca, rfl, c0, c1, c2, c3, t0⟩ := (hK.below hb).cells (j := 0) (t := k0) rfl
  obtain ⟨b', o', kb, cb, e, d0, d1, d2, d3, t1⟩ := (hK.below hb).cells (j := 1) (t := k1) rfl
  injection e with e
  injection e with e1 e2
  subst e1 e2
  simp only [Nat.zero_mul, Nat.add_zero, Nat.one_mul] at c0 c1 c2 c3 d0 d1 d2 d3
  have g3 : (w.alloc (.cells #[.int .i64 16, .string s, .int .i64 n, .slice (some ⟨b, o, none⟩) 2 cap] 33)).cell? ⟨w.heap.size, 3, none⟩ = some (.slice (some ⟨b, o, none⟩) 2 cap) := (cell_of_row _ _ _ _ _ _ (heap_alloc_new _ _)).trans rfl
  clear hK
  have HI0 : Hid (∀ w v, TIn w 0 k0 v → Calls Tryz.prog 48 #[v] w (ObsPost w o0)) := ih0
  have HI1 : Hid (∀ w v, TIn w 0 k1 v → Calls Tryz.prog 48 #[v] w (ObsPost w o1)) := ih1
  clear ih0 ih1
  go_enter Tryz.func48, Tryz.ntmps48
  go_wp2_with fail
  generalize w.alloc (.cells #[.int .i64 16, .string s, .int .i64 n, .slice (some ⟨b, o, none⟩) 2 cap] 33) = W at *
  have HT0 : Hid (TIn W 0 k0 _) := t0
  have HT1 : Hid (TIn W 0 k1 _) := t1
  have HB : Hid (Below w.heap.size w W) := hb
  have HLT := World.block_lt_of_cell? _ _ c0
  have HLW := World.block_lt_of_cell? _ _ g3
  have HF : Hid (∀ w', Below W.heap.size W w' → w'.cell? ⟨w.heap.size, 3, none⟩ = some (.slice (some ⟨b, o, none⟩) 2 cap) ∧ (w'.cell? ⟨b, o, none⟩ = some (.int .i64 k0.kind) ∧ w'.cell? ⟨b, o + 1, none⟩ = some (.string k0.s) ∧ w'.cell? ⟨b, o + 2, none⟩ = some (.int .i64 k0.n) ∧ w'.cell? ⟨b, o + 3, none⟩ = some (.slice ka k0.k.length ca)) ∧ (w'.cell? ⟨b, o + 4, none⟩ = some (.int .i64 k1.kind) ∧ w'.cell? ⟨b, o + 4 + 1, none⟩ = some (.string k1.s) ∧ w'.cell? ⟨b, o + 4 + 2, none⟩ = some (.int .i64 k1.n) ∧ w'.cell? ⟨b, o + 4 + 3, none⟩ = some (.slice kb k1.k.length cb))) := fun w' h =>
    ⟨(h.cell (p := ⟨w.heap.size, 3, none⟩) HLW).trans g3, ⟨(h.cell (p := ⟨b, o, none⟩) HLT).trans c0, (h.cell (p := ⟨b, o + 1, none⟩) HLT).trans c1, (h.cell (p := ⟨b, o + 2, none⟩) HLT).trans c2, (h.cell (p := ⟨b, o + 3, none⟩) HLT).trans c3⟩, ⟨(h.cell (p := ⟨b, o + 4, none⟩) HLT).trans d0, (h.cell (p := ⟨b, o + 4 + 1, none⟩) HLT).trans d1, (h.cell (p := ⟨b, o + 4 + 2, none⟩) HLT).trans d2, (h.cell (p := ⟨b, o + 4 + 3, none⟩) HLT).trans d3⟩⟩
  clear hb HLT HLW c0 c1 c2 c3 d0 d1 d2 d3 g3 t0 t1
  refine wp_region_class (fun w' => Below W.heap.size W w') (by kernel_rfl) (by kernel_rfl) (below_drew (Below.refl _ _)) ?_
  refine quiet_runs (.pointer (some ⟨w.heap.size, 3, none⟩)) rfl (fun w' hw' => ?_) ?_
  · go_simp
  simp only [Act.put, List.setIfInBounds_toArray, List.set_cons_zero, List.set_cons_succ]
  refine quiet_runs (.slice (some ⟨b, o, none⟩) 2 cap) rfl (fun w' hw' => ?_) ?_
  · obtain ⟨f0, ⟨f1, f2, f3, f4⟩, f5, f6, f7, f8⟩ := HF.out w' hw'
    go_simp
  simp only [Act.put, List.setIfInBounds_toArray, List.set_cons_zero, List.set_cons_succ]
  refine quiet_runs (.pointer (some ⟨b, o, none⟩)) rfl (fun w' hw' => ?_) ?_
  · go_simp
  simp only [Act.put, List.setIfInBounds_toArray, List.set_cons_zero, List.set_cons_succ]
  refine quiet_runs (.agg #[.int .i64 k0.kind, .string k0.s, .int .i64 k0.n, .slice ka k0.k.length ca]) rfl (fun w' hw' => ?_) ?_
  · obtain ⟨f0, ⟨f1, f2, f3, f4⟩, f5, f6, f7, f8⟩ := HF.out w' hw'
    go_simp
  simp only [Act.put, List.setIfInBounds_toArray, List.set_cons_zero, List.set_cons_succ]
  refine quiet_calls 48 #[.agg #[.int .i64 k0.kind, .string k0.s, .int .i64 k0.n, .slice ka k0.k.length ca]] o0.val rfl (fun w' hw' => ?_) (fun w' hw' => obs_class HI0.out HT0.out hw') ?_
  · go_simp
  simp only [Act.put, List.setIfInBounds_toArray, List.set_cons_zero, List.set_cons_succ]
  refine quiet_runs (.pointer (some ⟨w.heap.size, 3, none⟩)) rfl (fun w' hw' => ?_) ?_
  · go_simp
  simp only [Act.put, List.setIfInBounds_toArray, List.set_cons_zero, List.set_cons_succ]
  refine quiet_runs (.slice (some ⟨b, o, none⟩) 2 cap) rfl (fun w' hw' => ?_) ?_
  · obtain ⟨f0, ⟨f1, f2, f3, f4⟩, f5, f6, f7, f8⟩ := HF.out w' hw'
    go_simp
  simp only [Act.put, List.setIfInBounds_toArray, List.set_cons_zero, List.set_cons_succ]
  refine quiet_runs (.pointer (some ⟨b, o + 4, none⟩)) rfl (fun w' hw' => ?_) ?_
  · go_simp
  simp only [Act.put, List.setIfInBounds_toArray, List.set_cons_zero, List.set_cons_succ]
  refine quiet_runs (.agg #[.int .i64 k1.kind, .string k1.s, .int .i64 k1.n, .slice kb k1.k.length cb]) rfl (fun w' hw' => ?_) ?_
  · obtain ⟨f0, ⟨f1, f2, f3, f4⟩, f5, f6, f7, f8⟩ := HF.out w' hw'
    go_simp
  simp only [Act.put, List.setIfInBounds_toArray, List.set_cons_zero, List.set_cons_succ]
  refine quiet_calls 48 #[.agg #[.int .i64 k1.kind, .string k1.s, .int .i64 k1.n, .slice kb k1.k.length cb]] o1.val rfl (fun w' hw' => ?_) (fun w' hw' => obs_class HI1.out HT1.out hw') ?_
  · go_simp
  simp only [Act.put, List.setIfInBounds_toArray, List.set_cons_zero, List.set_cons_succ]
  refine quiet_runs (.agg #[o0.val, o1.val]) rfl (fun w' hw' => ?_) ?_
  · rcases o0.val_iface hv0 with e | ⟨t, x, e⟩ <;> rcases o1.val_iface hv1 with f | ⟨u, y, f⟩ <;> rw [e, f] <;> go_simp
  simp only [Act.put, List.setIfInBounds_toArray, List.set_cons_zero, List.set_cons_succ]
  refine quiet_runs (.iface 170 (.agg #[o0.val, o1.val])) rfl (fun w' hw' => ?_) ?_
  · go_simp
  simp only [Act.put, List.setIfInBounds_toArray, List.set_cons_zero, List.set_cons_succ]
  refine quiet_runs (.iface 170 (.agg #[o0.val, o1.val])) rfl (fun w' hw' => ?_) ?_
  · go_simp
  simp only [Act.put, List.setIfInBounds_toArray, List.set_cons_zero, List.set_cons_succ]
  refine wpQuiet_nil ?_
  intro w' hw'
  go_wp2_with fail
  go_ret
  exact ⟨rfl, HB.out.trans (hw'.mono HB.out.size)⟩

end Go.Proofs.YtkioolbjmcpjpaaGreatDoor
