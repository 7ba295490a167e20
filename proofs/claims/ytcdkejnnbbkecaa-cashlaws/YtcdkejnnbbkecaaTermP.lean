/- The contract of a tree, as the statements make it. -/
import Derived.Test.YtcdkejnnbbkecaaObsT2
import Derived.Test.YtcdkejnnbbkecaaTermWalk
import Derived.Test.YtcdkejnnbbkecaaMakerC0
namespace Go.Proofs.Ytcdkejnnbbkecaa
open Go.RowKit
set_option linter.unusedVariables false

theorem part_class {W w' : World} {t : T} {v r : Value} {f : Nat} (ih : ∀ w v, TIn w 0 t v → Calls Try.prog f #[v] w fun e w' => e = .returned r ∧ Below w.heap.size w w') (ht : TIn W 0 t v) (hw : Below W.heap.size W w') :
    Calls Try.prog f #[v] w' (fun e w'' => e = .returned r ∧ Below W.heap.size W w'') :=
  (ih w' v (ht.below hw)).mono (fun e w'' ⟨he, hb⟩ => ⟨he, hw.trans (hb.mono hw.size)⟩)


end Go.Proofs.Ytcdkejnnbbkecaa
namespace Go.Proofs.Ytcdkejnnbbkecaa
open Go.RowKit
set_option linter.unusedVariables false

set_option maxHeartbeats 2000000 in
set_option maxRecDepth 100000 in
theorem termT_and (k0 k1 : T) (s : ByteArray) (n : Int) (a : Option Addr) (cap : Nat) (w : World) (hcap : 2 ≤ cap) (hcm : cap ≤ 9223372036854775807) (hK : KAt w 0 [k0, k1] a 0) (r0 r1 : Value) (q0 : One' r0) (q1 : One' r1)
    (ih0 : ∀ w v, TIn w 0 k0 v → Calls Try.prog 4 #[v] w fun e w' => e = .returned r0 ∧ Below w.heap.size w w') (ih1 : ∀ w v, TIn w 0 k1 v → Calls Try.prog 4 #[v] w fun e w' => e = .returned r1 ∧ Below w.heap.size w w') :
    Calls Try.prog 4 #[.agg #[.int .i64 4, .string s, .int .i64 n, .slice a 2 cap]] w fun e w' => e = .returned (.iface 53 (.agg #[r0, r1])) ∧ Below w.heap.size w w' := by
  have hb : Below w.heap.size w (w.alloc (.cells #[.int .i64 4, .string s, .int .i64 n, .slice a 2 cap] 30)) := below_alloc (Below.refl _ _) _
  obtain ⟨b, o, ka0, ca0, rfl, c00, c01, c02, c03, t0⟩ := (hK.below hb).cells (j := 0) (t := k0) rfl
  obtain ⟨b1, o1, ka1, ca1, e1, c10, c11, c12, c13, t1⟩ := (hK.below hb).cells (j := 1) (t := k1) rfl
  injection e1 with e1
  injection e1 with e1a e1b
  subst e1a e1b
  simp only [Nat.zero_mul, Nat.add_zero, Nat.one_mul] at c00 c01 c02 c03 c10 c11 c12 c13
  have g : ∀ i, (w.alloc (.cells #[.int .i64 4, .string s, .int .i64 n, .slice (some ⟨b, o, none⟩) 2 cap] 30)).cell? ⟨w.heap.size, i, none⟩ = (#[.int .i64 4, .string s, .int .i64 n, .slice (some ⟨b, o, none⟩) 2 cap] : Array Value)[i]? := fun i => cell_of_row _ _ _ _ _ _ (heap_alloc_new _ _)
  have g1 := g 1
  have g2 := g 2
  have g3 := g 3
  rw [show (#[.int .i64 4, .string s, .int .i64 n, .slice (some ⟨b, o, none⟩) 2 cap] : Array Value)[1]? = some (.string s) from rfl] at g1
  rw [show (#[.int .i64 4, .string s, .int .i64 n, .slice (some ⟨b, o, none⟩) 2 cap] : Array Value)[2]? = some (.int .i64 n) from rfl] at g2
  rw [show (#[.int .i64 4, .string s, .int .i64 n, .slice (some ⟨b, o, none⟩) 2 cap] : Array Value)[3]? = some (.slice (some ⟨b, o, none⟩) 2 cap) from rfl] at g3
  clear hK g
  have HI0 := hidIn ih0
  have cv0 := q0.cells
  have mv0 := q0.cells
  unfold Value.cells at mv0
  have HI1 := hidIn ih1
  have cv1 := q1.cells
  have mv1 := q1.cells
  unfold Value.cells at mv1
  clear ih0 q0 ih1 q1
  go_enter Try.func4, Try.ntmps4
  go_wp2_with fail
  generalize w.alloc (.cells #[.int .i64 4, .string s, .int .i64 n, .slice (some ⟨b, o, none⟩) 2 cap] 30) = W at *
  have HT0 : Hid (TIn W 0 k0 _) := t0
  have HT1 : Hid (TIn W 0 k1 _) := t1
  have HB : Hid (Below w.heap.size w W) := hb
  have HLT := World.block_lt_of_cell? _ _ c00
  have HLW := World.block_lt_of_cell? _ _ g3
  have HF : Hid (∀ w', Below W.heap.size W w' → w'.cell? ⟨w.heap.size, 1, none⟩ = some (.string s) ∧ w'.cell? ⟨w.heap.size, 2, none⟩ = some (.int .i64 n) ∧ w'.cell? ⟨w.heap.size, 3, none⟩ = some (.slice (some ⟨b, o, none⟩) 2 cap) ∧ w'.cell? ⟨b, o, none⟩ = some (.int .i64 k0.kind) ∧ w'.cell? ⟨b, o + 1, none⟩ = some (.string k0.s) ∧ w'.cell? ⟨b, o + 2, none⟩ = some (.int .i64 k0.n) ∧ w'.cell? ⟨b, o + 3, none⟩ = some (.slice ka0 k0.k.length ca0) ∧ w'.cell? ⟨b, o + 4, none⟩ = some (.int .i64 k1.kind) ∧ w'.cell? ⟨b, o + 4 + 1, none⟩ = some (.string k1.s) ∧ w'.cell? ⟨b, o + 4 + 2, none⟩ = some (.int .i64 k1.n) ∧ w'.cell? ⟨b, o + 4 + 3, none⟩ = some (.slice ka1 k1.k.length ca1)) := fun w' h => ⟨(h.cell (p := ⟨w.heap.size, 1, none⟩) HLW).trans g1, (h.cell (p := ⟨w.heap.size, 2, none⟩) HLW).trans g2, (h.cell (p := ⟨w.heap.size, 3, none⟩) HLW).trans g3, (h.cell (p := ⟨b, o, none⟩) HLT).trans c00, (h.cell (p := ⟨b, o + 1, none⟩) HLT).trans c01, (h.cell (p := ⟨b, o + 2, none⟩) HLT).trans c02, (h.cell (p := ⟨b, o + 3, none⟩) HLT).trans c03, (h.cell (p := ⟨b, o + 4, none⟩) HLT).trans c10, (h.cell (p := ⟨b, o + 4 + 1, none⟩) HLT).trans c11, (h.cell (p := ⟨b, o + 4 + 2, none⟩) HLT).trans c12, (h.cell (p := ⟨b, o + 4 + 3, none⟩) HLT).trans c13⟩
  clear hb HLT HLW g1 g2 g3 c00 c01 c02 c03 c10 c11 c12 c13 t0 t1
  refine wp_region_class (fun w' => Below W.heap.size W w') (by kernel_rfl) (by kernel_rfl) (below_drew (Below.refl _ _)) ?_
  refine quiet_runs (.pointer (some ⟨w.heap.size, 3, none⟩)) rfl (fun w' hw' => ?_) ?_
  · go_simp
  simp only [Act.put, List.setIfInBounds_toArray, List.set_cons_zero, List.set_cons_succ]
  refine quiet_runs (.slice (some ⟨b, o, none⟩) 2 cap) rfl (fun w' hw' => ?_) ?_
  · obtain ⟨x1, x2, x3, y00, y01, y02, y03, y10, y11, y12, y13⟩ := HF.out w' hw'
    go_simp
  simp only [Act.put, List.setIfInBounds_toArray, List.set_cons_zero, List.set_cons_succ]
  refine quiet_runs (.pointer (some ⟨b, o, none⟩)) rfl (fun w' hw' => ?_) ?_
  · go_simp
  simp only [Act.put, List.setIfInBounds_toArray, List.set_cons_zero, List.set_cons_succ]
  refine quiet_runs (.agg #[.int .i64 k0.kind, .string k0.s, .int .i64 k0.n, .slice ka0 k0.k.length ca0]) rfl (fun w' hw' => ?_) ?_
  · obtain ⟨x1, x2, x3, y00, y01, y02, y03, y10, y11, y12, y13⟩ := HF.out w' hw'
    go_simp
  simp only [Act.put, List.setIfInBounds_toArray, List.set_cons_zero, List.set_cons_succ]
  refine quiet_calls 4 #[.agg #[.int .i64 k0.kind, .string k0.s, .int .i64 k0.n, .slice ka0 k0.k.length ca0]] r0 rfl (fun w' hw' => ?_) (fun w' hw' => part_class HI0.out HT0.out hw') ?_
  · go_simp
  simp only [Act.put, List.setIfInBounds_toArray, List.set_cons_zero, List.set_cons_succ]
  refine quiet_runs (.pointer (some ⟨w.heap.size, 3, none⟩)) rfl (fun w' hw' => ?_) ?_
  · go_simp
  simp only [Act.put, List.setIfInBounds_toArray, List.set_cons_zero, List.set_cons_succ]
  refine quiet_runs (.slice (some ⟨b, o, none⟩) 2 cap) rfl (fun w' hw' => ?_) ?_
  · obtain ⟨x1, x2, x3, y00, y01, y02, y03, y10, y11, y12, y13⟩ := HF.out w' hw'
    go_simp
  simp only [Act.put, List.setIfInBounds_toArray, List.set_cons_zero, List.set_cons_succ]
  refine quiet_runs (.pointer (some ⟨b, o + 4, none⟩)) rfl (fun w' hw' => ?_) ?_
  · go_simp
  simp only [Act.put, List.setIfInBounds_toArray, List.set_cons_zero, List.set_cons_succ]
  refine quiet_runs (.agg #[.int .i64 k1.kind, .string k1.s, .int .i64 k1.n, .slice ka1 k1.k.length ca1]) rfl (fun w' hw' => ?_) ?_
  · obtain ⟨x1, x2, x3, y00, y01, y02, y03, y10, y11, y12, y13⟩ := HF.out w' hw'
    go_simp
  simp only [Act.put, List.setIfInBounds_toArray, List.set_cons_zero, List.set_cons_succ]
  refine quiet_calls 4 #[.agg #[.int .i64 k1.kind, .string k1.s, .int .i64 k1.n, .slice ka1 k1.k.length ca1]] r1 rfl (fun w' hw' => ?_) (fun w' hw' => part_class HI1.out HT1.out hw') ?_
  · go_simp
  simp only [Act.put, List.setIfInBounds_toArray, List.set_cons_zero, List.set_cons_succ]
  refine quiet_runs (.agg #[r0, r1]) rfl (fun w' hw' => ?_) ?_
  · go_simp
  simp only [Act.put, List.setIfInBounds_toArray, List.set_cons_zero, List.set_cons_succ]
  refine quiet_runs (.iface 53 (.agg #[r0, r1])) rfl (fun w' hw' => ?_) ?_
  · go_simp
  simp only [Act.put, List.setIfInBounds_toArray, List.set_cons_zero, List.set_cons_succ]
  refine quiet_runs (.iface 53 (.agg #[r0, r1])) rfl (fun w' hw' => ?_) ?_
  · go_simp
  simp only [Act.put, List.setIfInBounds_toArray, List.set_cons_zero, List.set_cons_succ]
  refine wpQuiet_nil ?_
  intro w' hw'
  go_wp2_with fail
  go_ret
  exact ⟨rfl, HB.out.trans (hw'.mono HB.out.size)⟩
set_option maxHeartbeats 2000000 in
set_option maxRecDepth 100000 in
theorem termT_or (k0 k1 : T) (s : ByteArray) (n : Int) (a : Option Addr) (cap : Nat) (w : World) (hcap : 2 ≤ cap) (hcm : cap ≤ 9223372036854775807) (hK : KAt w 0 [k0, k1] a 0) (r0 r1 : Value) (q0 : One' r0) (q1 : One' r1)
    (ih0 : ∀ w v, TIn w 0 k0 v → Calls Try.prog 4 #[v] w fun e w' => e = .returned r0 ∧ Below w.heap.size w w') (ih1 : ∀ w v, TIn w 0 k1 v → Calls Try.prog 4 #[v] w fun e w' => e = .returned r1 ∧ Below w.heap.size w w') :
    Calls Try.prog 4 #[.agg #[.int .i64 5, .string s, .int .i64 n, .slice a 2 cap]] w fun e w' => e = .returned (.iface 68 (.agg #[.string s, r0, r1])) ∧ Below w.heap.size w w' := by
  have hb : Below w.heap.size w (w.alloc (.cells #[.int .i64 5, .string s, .int .i64 n, .slice a 2 cap] 30)) := below_alloc (Below.refl _ _) _
  obtain ⟨b, o, ka0, ca0, rfl, c00, c01, c02, c03, t0⟩ := (hK.below hb).cells (j := 0) (t := k0) rfl
  obtain ⟨b1, o1, ka1, ca1, e1, c10, c11, c12, c13, t1⟩ := (hK.below hb).cells (j := 1) (t := k1) rfl
  injection e1 with e1
  injection e1 with e1a e1b
  subst e1a e1b
  simp only [Nat.zero_mul, Nat.add_zero, Nat.one_mul] at c00 c01 c02 c03 c10 c11 c12 c13
  have g : ∀ i, (w.alloc (.cells #[.int .i64 5, .string s, .int .i64 n, .slice (some ⟨b, o, none⟩) 2 cap] 30)).cell? ⟨w.heap.size, i, none⟩ = (#[.int .i64 5, .string s, .int .i64 n, .slice (some ⟨b, o, none⟩) 2 cap] : Array Value)[i]? := fun i => cell_of_row _ _ _ _ _ _ (heap_alloc_new _ _)
  have g1 := g 1
  have g2 := g 2
  have g3 := g 3
  rw [show (#[.int .i64 5, .string s, .int .i64 n, .slice (some ⟨b, o, none⟩) 2 cap] : Array Value)[1]? = some (.string s) from rfl] at g1
  rw [show (#[.int .i64 5, .string s, .int .i64 n, .slice (some ⟨b, o, none⟩) 2 cap] : Array Value)[2]? = some (.int .i64 n) from rfl] at g2
  rw [show (#[.int .i64 5, .string s, .int .i64 n, .slice (some ⟨b, o, none⟩) 2 cap] : Array Value)[3]? = some (.slice (some ⟨b, o, none⟩) 2 cap) from rfl] at g3
  clear hK g
  have HI0 := hidIn ih0
  have cv0 := q0.cells
  have mv0 := q0.cells
  unfold Value.cells at mv0
  have HI1 := hidIn ih1
  have cv1 := q1.cells
  have mv1 := q1.cells
  unfold Value.cells at mv1
  clear ih0 q0 ih1 q1
  go_enter Try.func4, Try.ntmps4
  go_wp2_with fail
  generalize w.alloc (.cells #[.int .i64 5, .string s, .int .i64 n, .slice (some ⟨b, o, none⟩) 2 cap] 30) = W at *
  have HT0 : Hid (TIn W 0 k0 _) := t0
  have HT1 : Hid (TIn W 0 k1 _) := t1
  have HB : Hid (Below w.heap.size w W) := hb
  have HLT := World.block_lt_of_cell? _ _ c00
  have HLW := World.block_lt_of_cell? _ _ g3
  have HF : Hid (∀ w', Below W.heap.size W w' → w'.cell? ⟨w.heap.size, 1, none⟩ = some (.string s) ∧ w'.cell? ⟨w.heap.size, 2, none⟩ = some (.int .i64 n) ∧ w'.cell? ⟨w.heap.size, 3, none⟩ = some (.slice (some ⟨b, o, none⟩) 2 cap) ∧ w'.cell? ⟨b, o, none⟩ = some (.int .i64 k0.kind) ∧ w'.cell? ⟨b, o + 1, none⟩ = some (.string k0.s) ∧ w'.cell? ⟨b, o + 2, none⟩ = some (.int .i64 k0.n) ∧ w'.cell? ⟨b, o + 3, none⟩ = some (.slice ka0 k0.k.length ca0) ∧ w'.cell? ⟨b, o + 4, none⟩ = some (.int .i64 k1.kind) ∧ w'.cell? ⟨b, o + 4 + 1, none⟩ = some (.string k1.s) ∧ w'.cell? ⟨b, o + 4 + 2, none⟩ = some (.int .i64 k1.n) ∧ w'.cell? ⟨b, o + 4 + 3, none⟩ = some (.slice ka1 k1.k.length ca1)) := fun w' h => ⟨(h.cell (p := ⟨w.heap.size, 1, none⟩) HLW).trans g1, (h.cell (p := ⟨w.heap.size, 2, none⟩) HLW).trans g2, (h.cell (p := ⟨w.heap.size, 3, none⟩) HLW).trans g3, (h.cell (p := ⟨b, o, none⟩) HLT).trans c00, (h.cell (p := ⟨b, o + 1, none⟩) HLT).trans c01, (h.cell (p := ⟨b, o + 2, none⟩) HLT).trans c02, (h.cell (p := ⟨b, o + 3, none⟩) HLT).trans c03, (h.cell (p := ⟨b, o + 4, none⟩) HLT).trans c10, (h.cell (p := ⟨b, o + 4 + 1, none⟩) HLT).trans c11, (h.cell (p := ⟨b, o + 4 + 2, none⟩) HLT).trans c12, (h.cell (p := ⟨b, o + 4 + 3, none⟩) HLT).trans c13⟩
  clear hb HLT HLW g1 g2 g3 c00 c01 c02 c03 c10 c11 c12 c13 t0 t1
  refine wp_region_class (fun w' => Below W.heap.size W w') (by kernel_rfl) (by kernel_rfl) (below_drew (Below.refl _ _)) ?_
  refine quiet_runs (.pointer (some ⟨w.heap.size, 1, none⟩)) rfl (fun w' hw' => ?_) ?_
  · go_simp
  simp only [Act.put, List.setIfInBounds_toArray, List.set_cons_zero, List.set_cons_succ]
  refine quiet_runs (.string s) rfl (fun w' hw' => ?_) ?_
  · obtain ⟨x1, x2, x3, y00, y01, y02, y03, y10, y11, y12, y13⟩ := HF.out w' hw'
    go_simp
  simp only [Act.put, List.setIfInBounds_toArray, List.set_cons_zero, List.set_cons_succ]
  refine quiet_runs (.pointer (some ⟨w.heap.size, 3, none⟩)) rfl (fun w' hw' => ?_) ?_
  · go_simp
  simp only [Act.put, List.setIfInBounds_toArray, List.set_cons_zero, List.set_cons_succ]
  refine quiet_runs (.slice (some ⟨b, o, none⟩) 2 cap) rfl (fun w' hw' => ?_) ?_
  · obtain ⟨x1, x2, x3, y00, y01, y02, y03, y10, y11, y12, y13⟩ := HF.out w' hw'
    go_simp
  simp only [Act.put, List.setIfInBounds_toArray, List.set_cons_zero, List.set_cons_succ]
  refine quiet_runs (.pointer (some ⟨b, o, none⟩)) rfl (fun w' hw' => ?_) ?_
  · go_simp
  simp only [Act.put, List.setIfInBounds_toArray, List.set_cons_zero, List.set_cons_succ]
  refine quiet_runs (.agg #[.int .i64 k0.kind, .string k0.s, .int .i64 k0.n, .slice ka0 k0.k.length ca0]) rfl (fun w' hw' => ?_) ?_
  · obtain ⟨x1, x2, x3, y00, y01, y02, y03, y10, y11, y12, y13⟩ := HF.out w' hw'
    go_simp
  simp only [Act.put, List.setIfInBounds_toArray, List.set_cons_zero, List.set_cons_succ]
  refine quiet_calls 4 #[.agg #[.int .i64 k0.kind, .string k0.s, .int .i64 k0.n, .slice ka0 k0.k.length ca0]] r0 rfl (fun w' hw' => ?_) (fun w' hw' => part_class HI0.out HT0.out hw') ?_
  · go_simp
  simp only [Act.put, List.setIfInBounds_toArray, List.set_cons_zero, List.set_cons_succ]
  refine quiet_runs (.pointer (some ⟨w.heap.size, 3, none⟩)) rfl (fun w' hw' => ?_) ?_
  · go_simp
  simp only [Act.put, List.setIfInBounds_toArray, List.set_cons_zero, List.set_cons_succ]
  refine quiet_runs (.slice (some ⟨b, o, none⟩) 2 cap) rfl (fun w' hw' => ?_) ?_
  · obtain ⟨x1, x2, x3, y00, y01, y02, y03, y10, y11, y12, y13⟩ := HF.out w' hw'
    go_simp
  simp only [Act.put, List.setIfInBounds_toArray, List.set_cons_zero, List.set_cons_succ]
  refine quiet_runs (.pointer (some ⟨b, o + 4, none⟩)) rfl (fun w' hw' => ?_) ?_
  · go_simp
  simp only [Act.put, List.setIfInBounds_toArray, List.set_cons_zero, List.set_cons_succ]
  refine quiet_runs (.agg #[.int .i64 k1.kind, .string k1.s, .int .i64 k1.n, .slice ka1 k1.k.length ca1]) rfl (fun w' hw' => ?_) ?_
  · obtain ⟨x1, x2, x3, y00, y01, y02, y03, y10, y11, y12, y13⟩ := HF.out w' hw'
    go_simp
  simp only [Act.put, List.setIfInBounds_toArray, List.set_cons_zero, List.set_cons_succ]
  refine quiet_calls 4 #[.agg #[.int .i64 k1.kind, .string k1.s, .int .i64 k1.n, .slice ka1 k1.k.length ca1]] r1 rfl (fun w' hw' => ?_) (fun w' hw' => part_class HI1.out HT1.out hw') ?_
  · go_simp
  simp only [Act.put, List.setIfInBounds_toArray, List.set_cons_zero, List.set_cons_succ]
  refine quiet_runs (.agg #[.string s, r0, r1]) rfl (fun w' hw' => ?_) ?_
  · go_simp
  simp only [Act.put, List.setIfInBounds_toArray, List.set_cons_zero, List.set_cons_succ]
  refine quiet_runs (.iface 68 (.agg #[.string s, r0, r1])) rfl (fun w' hw' => ?_) ?_
  · go_simp
  simp only [Act.put, List.setIfInBounds_toArray, List.set_cons_zero, List.set_cons_succ]
  refine quiet_runs (.iface 68 (.agg #[.string s, r0, r1])) rfl (fun w' hw' => ?_) ?_
  · go_simp
  simp only [Act.put, List.setIfInBounds_toArray, List.set_cons_zero, List.set_cons_succ]
  refine wpQuiet_nil ?_
  intro w' hw'
  go_wp2_with fail
  go_ret
  exact ⟨rfl, HB.out.trans (hw'.mono HB.out.size)⟩

end Go.Proofs.Ytcdkejnnbbkecaa
namespace Go.Proofs.Ytcdkejnnbbkecaa
open Go.RowKit
set_option linter.unusedVariables false

set_option maxHeartbeats 2000000 in
set_option maxRecDepth 100000 in
theorem termT_scale (k0 k1 : T) (s : ByteArray) (n : Int) (a : Option Addr) (cap : Nat) (w : World) (hcap : 2 ≤ cap) (hcm : cap ≤ 9223372036854775807) (hK : KAt w 0 [k0, k1] a 0) (r0 r1 : Value) (q0 : One' r0) (q1 : One' r1)
    (ih0 : ∀ w v, TIn w 0 k0 v → Calls Try.prog 15 #[v] w fun e w' => e = .returned r0 ∧ Below w.heap.size w w') (ih1 : ∀ w v, TIn w 0 k1 v → Calls Try.prog 4 #[v] w fun e w' => e = .returned r1 ∧ Below w.heap.size w w') :
    Calls Try.prog 4 #[.agg #[.int .i64 6, .string s, .int .i64 n, .slice a 2 cap]] w fun e w' => e = .returned (.iface 61 (.agg #[r0, r1])) ∧ Below w.heap.size w w' := by
  have hb : Below w.heap.size w (w.alloc (.cells #[.int .i64 6, .string s, .int .i64 n, .slice a 2 cap] 30)) := below_alloc (Below.refl _ _) _
  obtain ⟨b, o, ka0, ca0, rfl, c00, c01, c02, c03, t0⟩ := (hK.below hb).cells (j := 0) (t := k0) rfl
  obtain ⟨b1, o1, ka1, ca1, e1, c10, c11, c12, c13, t1⟩ := (hK.below hb).cells (j := 1) (t := k1) rfl
  injection e1 with e1
  injection e1 with e1a e1b
  subst e1a e1b
  simp only [Nat.zero_mul, Nat.add_zero, Nat.one_mul] at c00 c01 c02 c03 c10 c11 c12 c13
  have g : ∀ i, (w.alloc (.cells #[.int .i64 6, .string s, .int .i64 n, .slice (some ⟨b, o, none⟩) 2 cap] 30)).cell? ⟨w.heap.size, i, none⟩ = (#[.int .i64 6, .string s, .int .i64 n, .slice (some ⟨b, o, none⟩) 2 cap] : Array Value)[i]? := fun i => cell_of_row _ _ _ _ _ _ (heap_alloc_new _ _)
  have g1 := g 1
  have g2 := g 2
  have g3 := g 3
  rw [show (#[.int .i64 6, .string s, .int .i64 n, .slice (some ⟨b, o, none⟩) 2 cap] : Array Value)[1]? = some (.string s) from rfl] at g1
  rw [show (#[.int .i64 6, .string s, .int .i64 n, .slice (some ⟨b, o, none⟩) 2 cap] : Array Value)[2]? = some (.int .i64 n) from rfl] at g2
  rw [show (#[.int .i64 6, .string s, .int .i64 n, .slice (some ⟨b, o, none⟩) 2 cap] : Array Value)[3]? = some (.slice (some ⟨b, o, none⟩) 2 cap) from rfl] at g3
  clear hK g
  have HI0 := hidIn ih0
  have cv0 := q0.cells
  have mv0 := q0.cells
  unfold Value.cells at mv0
  have HI1 := hidIn ih1
  have cv1 := q1.cells
  have mv1 := q1.cells
  unfold Value.cells at mv1
  clear ih0 q0 ih1 q1
  go_enter Try.func4, Try.ntmps4
  go_wp2_with fail
  generalize w.alloc (.cells #[.int .i64 6, .string s, .int .i64 n, .slice (some ⟨b, o, none⟩) 2 cap] 30) = W at *
  have HT0 : Hid (TIn W 0 k0 _) := t0
  have HT1 : Hid (TIn W 0 k1 _) := t1
  have HB : Hid (Below w.heap.size w W) := hb
  have HLT := World.block_lt_of_cell? _ _ c00
  have HLW := World.block_lt_of_cell? _ _ g3
  have HF : Hid (∀ w', Below W.heap.size W w' → w'.cell? ⟨w.heap.size, 1, none⟩ = some (.string s) ∧ w'.cell? ⟨w.heap.size, 2, none⟩ = some (.int .i64 n) ∧ w'.cell? ⟨w.heap.size, 3, none⟩ = some (.slice (some ⟨b, o, none⟩) 2 cap) ∧ w'.cell? ⟨b, o, none⟩ = some (.int .i64 k0.kind) ∧ w'.cell? ⟨b, o + 1, none⟩ = some (.string k0.s) ∧ w'.cell? ⟨b, o + 2, none⟩ = some (.int .i64 k0.n) ∧ w'.cell? ⟨b, o + 3, none⟩ = some (.slice ka0 k0.k.length ca0) ∧ w'.cell? ⟨b, o + 4, none⟩ = some (.int .i64 k1.kind) ∧ w'.cell? ⟨b, o + 4 + 1, none⟩ = some (.string k1.s) ∧ w'.cell? ⟨b, o + 4 + 2, none⟩ = some (.int .i64 k1.n) ∧ w'.cell? ⟨b, o + 4 + 3, none⟩ = some (.slice ka1 k1.k.length ca1)) := fun w' h => ⟨(h.cell (p := ⟨w.heap.size, 1, none⟩) HLW).trans g1, (h.cell (p := ⟨w.heap.size, 2, none⟩) HLW).trans g2, (h.cell (p := ⟨w.heap.size, 3, none⟩) HLW).trans g3, (h.cell (p := ⟨b, o, none⟩) HLT).trans c00, (h.cell (p := ⟨b, o + 1, none⟩) HLT).trans c01, (h.cell (p := ⟨b, o + 2, none⟩) HLT).trans c02, (h.cell (p := ⟨b, o + 3, none⟩) HLT).trans c03, (h.cell (p := ⟨b, o + 4, none⟩) HLT).trans c10, (h.cell (p := ⟨b, o + 4 + 1, none⟩) HLT).trans c11, (h.cell (p := ⟨b, o + 4 + 2, none⟩) HLT).trans c12, (h.cell (p := ⟨b, o + 4 + 3, none⟩) HLT).trans c13⟩
  clear hb HLT HLW g1 g2 g3 c00 c01 c02 c03 c10 c11 c12 c13 t0 t1
  refine wp_region_class (fun w' => Below W.heap.size W w') (by kernel_rfl) (by kernel_rfl) (below_drew (Below.refl _ _)) ?_
  refine quiet_runs (.pointer (some ⟨w.heap.size, 3, none⟩)) rfl (fun w' hw' => ?_) ?_
  · go_simp
  simp only [Act.put, List.setIfInBounds_toArray, List.set_cons_zero, List.set_cons_succ]
  refine quiet_runs (.slice (some ⟨b, o, none⟩) 2 cap) rfl (fun w' hw' => ?_) ?_
  · obtain ⟨x1, x2, x3, y00, y01, y02, y03, y10, y11, y12, y13⟩ := HF.out w' hw'
    go_simp
  simp only [Act.put, List.setIfInBounds_toArray, List.set_cons_zero, List.set_cons_succ]
  refine quiet_runs (.pointer (some ⟨b, o, none⟩)) rfl (fun w' hw' => ?_) ?_
  · go_simp
  simp only [Act.put, List.setIfInBounds_toArray, List.set_cons_zero, List.set_cons_succ]
  refine quiet_runs (.agg #[.int .i64 k0.kind, .string k0.s, .int .i64 k0.n, .slice ka0 k0.k.length ca0]) rfl (fun w' hw' => ?_) ?_
  · obtain ⟨x1, x2, x3, y00, y01, y02, y03, y10, y11, y12, y13⟩ := HF.out w' hw'
    go_simp
  simp only [Act.put, List.setIfInBounds_toArray, List.set_cons_zero, List.set_cons_succ]
  refine quiet_calls 15 #[.agg #[.int .i64 k0.kind, .string k0.s, .int .i64 k0.n, .slice ka0 k0.k.length ca0]] r0 rfl (fun w' hw' => ?_) (fun w' hw' => part_class HI0.out HT0.out hw') ?_
  · go_simp
  simp only [Act.put, List.setIfInBounds_toArray, List.set_cons_zero, List.set_cons_succ]
  refine quiet_runs (.pointer (some ⟨w.heap.size, 3, none⟩)) rfl (fun w' hw' => ?_) ?_
  · go_simp
  simp only [Act.put, List.setIfInBounds_toArray, List.set_cons_zero, List.set_cons_succ]
  refine quiet_runs (.slice (some ⟨b, o, none⟩) 2 cap) rfl (fun w' hw' => ?_) ?_
  · obtain ⟨x1, x2, x3, y00, y01, y02, y03, y10, y11, y12, y13⟩ := HF.out w' hw'
    go_simp
  simp only [Act.put, List.setIfInBounds_toArray, List.set_cons_zero, List.set_cons_succ]
  refine quiet_runs (.pointer (some ⟨b, o + 4, none⟩)) rfl (fun w' hw' => ?_) ?_
  · go_simp
  simp only [Act.put, List.setIfInBounds_toArray, List.set_cons_zero, List.set_cons_succ]
  refine quiet_runs (.agg #[.int .i64 k1.kind, .string k1.s, .int .i64 k1.n, .slice ka1 k1.k.length ca1]) rfl (fun w' hw' => ?_) ?_
  · obtain ⟨x1, x2, x3, y00, y01, y02, y03, y10, y11, y12, y13⟩ := HF.out w' hw'
    go_simp
  simp only [Act.put, List.setIfInBounds_toArray, List.set_cons_zero, List.set_cons_succ]
  refine quiet_calls 4 #[.agg #[.int .i64 k1.kind, .string k1.s, .int .i64 k1.n, .slice ka1 k1.k.length ca1]] r1 rfl (fun w' hw' => ?_) (fun w' hw' => part_class HI1.out HT1.out hw') ?_
  · go_simp
  simp only [Act.put, List.setIfInBounds_toArray, List.set_cons_zero, List.set_cons_succ]
  refine quiet_runs (.agg #[r0, r1]) rfl (fun w' hw' => ?_) ?_
  · go_simp
  simp only [Act.put, List.setIfInBounds_toArray, List.set_cons_zero, List.set_cons_succ]
  refine quiet_runs (.iface 61 (.agg #[r0, r1])) rfl (fun w' hw' => ?_) ?_
  · go_simp
  simp only [Act.put, List.setIfInBounds_toArray, List.set_cons_zero, List.set_cons_succ]
  refine quiet_runs (.iface 61 (.agg #[r0, r1])) rfl (fun w' hw' => ?_) ?_
  · go_simp
  simp only [Act.put, List.setIfInBounds_toArray, List.set_cons_zero, List.set_cons_succ]
  refine wpQuiet_nil ?_
  intro w' hw'
  go_wp2_with fail
  go_ret
  exact ⟨rfl, HB.out.trans (hw'.mono HB.out.size)⟩
set_option maxHeartbeats 2000000 in
set_option maxRecDepth 100000 in
theorem termT_when (k0 : T) (s : ByteArray) (n : Int) (a : Option Addr) (cap : Nat) (w : World) (hcap : 1 ≤ cap) (hcm : cap ≤ 9223372036854775807) (hK : KAt w 0 [k0] a 0) (r0 : Value) (q0 : One' r0)
    (ih0 : ∀ w v, TIn w 0 k0 v → Calls Try.prog 4 #[v] w fun e w' => e = .returned r0 ∧ Below w.heap.size w w') :
    Calls Try.prog 4 #[.agg #[.int .i64 7, .string s, .int .i64 n, .slice a 1 cap]] w fun e w' => e = .returned (.iface 55 (.agg #[.int .i64 n, r0])) ∧ Below w.heap.size w w' := by
  have hb : Below w.heap.size w (w.alloc (.cells #[.int .i64 7, .string s, .int .i64 n, .slice a 1 cap] 30)) := below_alloc (Below.refl _ _) _
  obtain ⟨b, o, ka0, ca0, rfl, c00, c01, c02, c03, t0⟩ := (hK.below hb).cells (j := 0) (t := k0) rfl
  simp only [Nat.zero_mul, Nat.add_zero] at c00 c01 c02 c03
  have g : ∀ i, (w.alloc (.cells #[.int .i64 7, .string s, .int .i64 n, .slice (some ⟨b, o, none⟩) 1 cap] 30)).cell? ⟨w.heap.size, i, none⟩ = (#[.int .i64 7, .string s, .int .i64 n, .slice (some ⟨b, o, none⟩) 1 cap] : Array Value)[i]? := fun i => cell_of_row _ _ _ _ _ _ (heap_alloc_new _ _)
  have g1 := g 1
  have g2 := g 2
  have g3 := g 3
  rw [show (#[.int .i64 7, .string s, .int .i64 n, .slice (some ⟨b, o, none⟩) 1 cap] : Array Value)[1]? = some (.string s) from rfl] at g1
  rw [show (#[.int .i64 7, .string s, .int .i64 n, .slice (some ⟨b, o, none⟩) 1 cap] : Array Value)[2]? = some (.int .i64 n) from rfl] at g2
  rw [show (#[.int .i64 7, .string s, .int .i64 n, .slice (some ⟨b, o, none⟩) 1 cap] : Array Value)[3]? = some (.slice (some ⟨b, o, none⟩) 1 cap) from rfl] at g3
  clear hK g
  have HI0 := hidIn ih0
  have cv0 := q0.cells
  have mv0 := q0.cells
  unfold Value.cells at mv0
  clear ih0 q0
  go_enter Try.func4, Try.ntmps4
  go_wp2_with fail
  generalize w.alloc (.cells #[.int .i64 7, .string s, .int .i64 n, .slice (some ⟨b, o, none⟩) 1 cap] 30) = W at *
  have HT0 : Hid (TIn W 0 k0 _) := t0
  have HB : Hid (Below w.heap.size w W) := hb
  have HLT := World.block_lt_of_cell? _ _ c00
  have HLW := World.block_lt_of_cell? _ _ g3
  have HF : Hid (∀ w', Below W.heap.size W w' → w'.cell? ⟨w.heap.size, 1, none⟩ = some (.string s) ∧ w'.cell? ⟨w.heap.size, 2, none⟩ = some (.int .i64 n) ∧ w'.cell? ⟨w.heap.size, 3, none⟩ = some (.slice (some ⟨b, o, none⟩) 1 cap) ∧ w'.cell? ⟨b, o, none⟩ = some (.int .i64 k0.kind) ∧ w'.cell? ⟨b, o + 1, none⟩ = some (.string k0.s) ∧ w'.cell? ⟨b, o + 2, none⟩ = some (.int .i64 k0.n) ∧ w'.cell? ⟨b, o + 3, none⟩ = some (.slice ka0 k0.k.length ca0)) := fun w' h => ⟨(h.cell (p := ⟨w.heap.size, 1, none⟩) HLW).trans g1, (h.cell (p := ⟨w.heap.size, 2, none⟩) HLW).trans g2, (h.cell (p := ⟨w.heap.size, 3, none⟩) HLW).trans g3, (h.cell (p := ⟨b, o, none⟩) HLT).trans c00, (h.cell (p := ⟨b, o + 1, none⟩) HLT).trans c01, (h.cell (p := ⟨b, o + 2, none⟩) HLT).trans c02, (h.cell (p := ⟨b, o + 3, none⟩) HLT).trans c03⟩
  clear hb HLT HLW g1 g2 g3 c00 c01 c02 c03 t0
  refine wp_region_class (fun w' => Below W.heap.size W w') (by kernel_rfl) (by kernel_rfl) (below_drew (Below.refl _ _)) ?_
  refine quiet_runs (.pointer (some ⟨w.heap.size, 2, none⟩)) rfl (fun w' hw' => ?_) ?_
  · go_simp
  simp only [Act.put, List.setIfInBounds_toArray, List.set_cons_zero, List.set_cons_succ]
  refine quiet_runs (.int .i64 n) rfl (fun w' hw' => ?_) ?_
  · obtain ⟨x1, x2, x3, y00, y01, y02, y03⟩ := HF.out w' hw'
    go_simp
  simp only [Act.put, List.setIfInBounds_toArray, List.set_cons_zero, List.set_cons_succ]
  refine quiet_runs (.pointer (some ⟨w.heap.size, 3, none⟩)) rfl (fun w' hw' => ?_) ?_
  · go_simp
  simp only [Act.put, List.setIfInBounds_toArray, List.set_cons_zero, List.set_cons_succ]
  refine quiet_runs (.slice (some ⟨b, o, none⟩) 1 cap) rfl (fun w' hw' => ?_) ?_
  · obtain ⟨x1, x2, x3, y00, y01, y02, y03⟩ := HF.out w' hw'
    go_simp
  simp only [Act.put, List.setIfInBounds_toArray, List.set_cons_zero, List.set_cons_succ]
  refine quiet_runs (.pointer (some ⟨b, o, none⟩)) rfl (fun w' hw' => ?_) ?_
  · go_simp
  simp only [Act.put, List.setIfInBounds_toArray, List.set_cons_zero, List.set_cons_succ]
  refine quiet_runs (.agg #[.int .i64 k0.kind, .string k0.s, .int .i64 k0.n, .slice ka0 k0.k.length ca0]) rfl (fun w' hw' => ?_) ?_
  · obtain ⟨x1, x2, x3, y00, y01, y02, y03⟩ := HF.out w' hw'
    go_simp
  simp only [Act.put, List.setIfInBounds_toArray, List.set_cons_zero, List.set_cons_succ]
  refine quiet_calls 4 #[.agg #[.int .i64 k0.kind, .string k0.s, .int .i64 k0.n, .slice ka0 k0.k.length ca0]] r0 rfl (fun w' hw' => ?_) (fun w' hw' => part_class HI0.out HT0.out hw') ?_
  · go_simp
  simp only [Act.put, List.setIfInBounds_toArray, List.set_cons_zero, List.set_cons_succ]
  refine quiet_runs (.agg #[.int .i64 n, r0]) rfl (fun w' hw' => ?_) ?_
  · go_simp
  simp only [Act.put, List.setIfInBounds_toArray, List.set_cons_zero, List.set_cons_succ]
  refine quiet_runs (.iface 55 (.agg #[.int .i64 n, r0])) rfl (fun w' hw' => ?_) ?_
  · go_simp
  simp only [Act.put, List.setIfInBounds_toArray, List.set_cons_zero, List.set_cons_succ]
  refine quiet_runs (.iface 55 (.agg #[.int .i64 n, r0])) rfl (fun w' hw' => ?_) ?_
  · go_simp
  simp only [Act.put, List.setIfInBounds_toArray, List.set_cons_zero, List.set_cons_succ]
  refine wpQuiet_nil ?_
  intro w' hw'
  go_wp2_with fail
  go_ret
  exact ⟨rfl, HB.out.trans (hw'.mono HB.out.size)⟩

end Go.Proofs.Ytcdkejnnbbkecaa
namespace Go.Proofs.Ytcdkejnnbbkecaa
open Go.RowKit
set_option linter.unusedVariables false

set_option maxHeartbeats 2000000 in
set_option maxRecDepth 100000 in
theorem termT_iff (k0 k1 k2 : T) (s : ByteArray) (n : Int) (a : Option Addr) (cap : Nat) (w : World) (hcap : 3 ≤ cap) (hcm : cap ≤ 9223372036854775807) (hK : KAt w 0 [k0, k1, k2] a 0) (r0 r1 r2 : Value) (q0 : One' r0) (q1 : One' r1) (q2 : One' r2)
    (ih0 : ∀ w v, TIn w 0 k0 v → Calls Try.prog 15 #[v] w fun e w' => e = .returned r0 ∧ Below w.heap.size w w') (ih1 : ∀ w v, TIn w 0 k1 v → Calls Try.prog 4 #[v] w fun e w' => e = .returned r1 ∧ Below w.heap.size w w') (ih2 : ∀ w v, TIn w 0 k2 v → Calls Try.prog 4 #[v] w fun e w' => e = .returned r2 ∧ Below w.heap.size w w') :
    Calls Try.prog 4 #[.agg #[.int .i64 8, .string s, .int .i64 n, .slice a 3 cap]] w fun e w' => e = .returned (.iface 71 (.agg #[r0, r1, r2])) ∧ Below w.heap.size w w' := by
  have hb : Below w.heap.size w (w.alloc (.cells #[.int .i64 8, .string s, .int .i64 n, .slice a 3 cap] 30)) := below_alloc (Below.refl _ _) _
  obtain ⟨b, o, ka0, ca0, rfl, c00, c01, c02, c03, t0⟩ := (hK.below hb).cells (j := 0) (t := k0) rfl
  obtain ⟨b1, o1, ka1, ca1, e1, c10, c11, c12, c13, t1⟩ := (hK.below hb).cells (j := 1) (t := k1) rfl
  injection e1 with e1
  injection e1 with e1a e1b
  subst e1a e1b
  obtain ⟨b2, o2, ka2, ca2, e2, c20, c21, c22, c23, t2⟩ := (hK.below hb).cells (j := 2) (t := k2) rfl
  injection e2 with e2
  injection e2 with e2a e2b
  subst e2a e2b
  simp only [Nat.zero_mul, Nat.add_zero, Nat.one_mul, show 2 * 4 = 8 from rfl] at c00 c01 c02 c03 c10 c11 c12 c13 c20 c21 c22 c23
  have g : ∀ i, (w.alloc (.cells #[.int .i64 8, .string s, .int .i64 n, .slice (some ⟨b, o, none⟩) 3 cap] 30)).cell? ⟨w.heap.size, i, none⟩ = (#[.int .i64 8, .string s, .int .i64 n, .slice (some ⟨b, o, none⟩) 3 cap] : Array Value)[i]? := fun i => cell_of_row _ _ _ _ _ _ (heap_alloc_new _ _)
  have g1 := g 1
  have g2 := g 2
  have g3 := g 3
  rw [show (#[.int .i64 8, .string s, .int .i64 n, .slice (some ⟨b, o, none⟩) 3 cap] : Array Value)[1]? = some (.string s) from rfl] at g1
  rw [show (#[.int .i64 8, .string s, .int .i64 n, .slice (some ⟨b, o, none⟩) 3 cap] : Array Value)[2]? = some (.int .i64 n) from rfl] at g2
  rw [show (#[.int .i64 8, .string s, .int .i64 n, .slice (some ⟨b, o, none⟩) 3 cap] : Array Value)[3]? = some (.slice (some ⟨b, o, none⟩) 3 cap) from rfl] at g3
  clear hK g
  have HI0 := hidIn ih0
  have cv0 := q0.cells
  have mv0 := q0.cells
  unfold Value.cells at mv0
  have HI1 := hidIn ih1
  have cv1 := q1.cells
  have mv1 := q1.cells
  unfold Value.cells at mv1
  have HI2 := hidIn ih2
  have cv2 := q2.cells
  have mv2 := q2.cells
  unfold Value.cells at mv2
  clear ih0 q0 ih1 q1 ih2 q2
  go_enter Try.func4, Try.ntmps4
  go_wp2_with fail
  generalize w.alloc (.cells #[.int .i64 8, .string s, .int .i64 n, .slice (some ⟨b, o, none⟩) 3 cap] 30) = W at *
  have HT0 : Hid (TIn W 0 k0 _) := t0
  have HT1 : Hid (TIn W 0 k1 _) := t1
  have HT2 : Hid (TIn W 0 k2 _) := t2
  have HB : Hid (Below w.heap.size w W) := hb
  have HLT := World.block_lt_of_cell? _ _ c00
  have HLW := World.block_lt_of_cell? _ _ g3
  have HF : Hid (∀ w', Below W.heap.size W w' → w'.cell? ⟨w.heap.size, 1, none⟩ = some (.string s) ∧ w'.cell? ⟨w.heap.size, 2, none⟩ = some (.int .i64 n) ∧ w'.cell? ⟨w.heap.size, 3, none⟩ = some (.slice (some ⟨b, o, none⟩) 3 cap) ∧ w'.cell? ⟨b, o, none⟩ = some (.int .i64 k0.kind) ∧ w'.cell? ⟨b, o + 1, none⟩ = some (.string k0.s) ∧ w'.cell? ⟨b, o + 2, none⟩ = some (.int .i64 k0.n) ∧ w'.cell? ⟨b, o + 3, none⟩ = some (.slice ka0 k0.k.length ca0) ∧ w'.cell? ⟨b, o + 4, none⟩ = some (.int .i64 k1.kind) ∧ w'.cell? ⟨b, o + 4 + 1, none⟩ = some (.string k1.s) ∧ w'.cell? ⟨b, o + 4 + 2, none⟩ = some (.int .i64 k1.n) ∧ w'.cell? ⟨b, o + 4 + 3, none⟩ = some (.slice ka1 k1.k.length ca1) ∧ w'.cell? ⟨b, o + 8, none⟩ = some (.int .i64 k2.kind) ∧ w'.cell? ⟨b, o + 8 + 1, none⟩ = some (.string k2.s) ∧ w'.cell? ⟨b, o + 8 + 2, none⟩ = some (.int .i64 k2.n) ∧ w'.cell? ⟨b, o + 8 + 3, none⟩ = some (.slice ka2 k2.k.length ca2)) := fun w' h => ⟨(h.cell (p := ⟨w.heap.size, 1, none⟩) HLW).trans g1, (h.cell (p := ⟨w.heap.size, 2, none⟩) HLW).trans g2, (h.cell (p := ⟨w.heap.size, 3, none⟩) HLW).trans g3, (h.cell (p := ⟨b, o, none⟩) HLT).trans c00, (h.cell (p := ⟨b, o + 1, none⟩) HLT).trans c01, (h.cell (p := ⟨b, o + 2, none⟩) HLT).trans c02, (h.cell (p := ⟨b, o + 3, none⟩) HLT).trans c03, (h.cell (p := ⟨b, o + 4, none⟩) HLT).trans c10, (h.cell (p := ⟨b, o + 4 + 1, none⟩) HLT).trans c11, (h.cell (p := ⟨b, o + 4 + 2, none⟩) HLT).trans c12, (h.cell (p := ⟨b, o + 4 + 3, none⟩) HLT).trans c13, (h.cell (p := ⟨b, o + 8, none⟩) HLT).trans c20, (h.cell (p := ⟨b, o + 8 + 1, none⟩) HLT).trans c21, (h.cell (p := ⟨b, o + 8 + 2, none⟩) HLT).trans c22, (h.cell (p := ⟨b, o + 8 + 3, none⟩) HLT).trans c23⟩
  clear hb HLT HLW g1 g2 g3 c00 c01 c02 c03 c10 c11 c12 c13 c20 c21 c22 c23 t0 t1 t2
  refine wp_region_class (fun w' => Below W.heap.size W w') (by kernel_rfl) (by kernel_rfl) (below_drew (Below.refl _ _)) ?_
  refine quiet_runs (.pointer (some ⟨w.heap.size, 3, none⟩)) rfl (fun w' hw' => ?_) ?_
  · go_simp
  simp only [Act.put, List.setIfInBounds_toArray, List.set_cons_zero, List.set_cons_succ]
  refine quiet_runs (.slice (some ⟨b, o, none⟩) 3 cap) rfl (fun w' hw' => ?_) ?_
  · obtain ⟨x1, x2, x3, y00, y01, y02, y03, y10, y11, y12, y13, y20, y21, y22, y23⟩ := HF.out w' hw'
    go_simp
  simp only [Act.put, List.setIfInBounds_toArray, List.set_cons_zero, List.set_cons_succ]
  refine quiet_runs (.pointer (some ⟨b, o, none⟩)) rfl (fun w' hw' => ?_) ?_
  · go_simp
  simp only [Act.put, List.setIfInBounds_toArray, List.set_cons_zero, List.set_cons_succ]
  refine quiet_runs (.agg #[.int .i64 k0.kind, .string k0.s, .int .i64 k0.n, .slice ka0 k0.k.length ca0]) rfl (fun w' hw' => ?_) ?_
  · obtain ⟨x1, x2, x3, y00, y01, y02, y03, y10, y11, y12, y13, y20, y21, y22, y23⟩ := HF.out w' hw'
    go_simp
  simp only [Act.put, List.setIfInBounds_toArray, List.set_cons_zero, List.set_cons_succ]
  refine quiet_calls 15 #[.agg #[.int .i64 k0.kind, .string k0.s, .int .i64 k0.n, .slice ka0 k0.k.length ca0]] r0 rfl (fun w' hw' => ?_) (fun w' hw' => part_class HI0.out HT0.out hw') ?_
  · go_simp
  simp only [Act.put, List.setIfInBounds_toArray, List.set_cons_zero, List.set_cons_succ]
  refine quiet_runs (.pointer (some ⟨w.heap.size, 3, none⟩)) rfl (fun w' hw' => ?_) ?_
  · go_simp
  simp only [Act.put, List.setIfInBounds_toArray, List.set_cons_zero, List.set_cons_succ]
  refine quiet_runs (.slice (some ⟨b, o, none⟩) 3 cap) rfl (fun w' hw' => ?_) ?_
  · obtain ⟨x1, x2, x3, y00, y01, y02, y03, y10, y11, y12, y13, y20, y21, y22, y23⟩ := HF.out w' hw'
    go_simp
  simp only [Act.put, List.setIfInBounds_toArray, List.set_cons_zero, List.set_cons_succ]
  refine quiet_runs (.pointer (some ⟨b, o + 4, none⟩)) rfl (fun w' hw' => ?_) ?_
  · go_simp
  simp only [Act.put, List.setIfInBounds_toArray, List.set_cons_zero, List.set_cons_succ]
  refine quiet_runs (.agg #[.int .i64 k1.kind, .string k1.s, .int .i64 k1.n, .slice ka1 k1.k.length ca1]) rfl (fun w' hw' => ?_) ?_
  · obtain ⟨x1, x2, x3, y00, y01, y02, y03, y10, y11, y12, y13, y20, y21, y22, y23⟩ := HF.out w' hw'
    go_simp
  simp only [Act.put, List.setIfInBounds_toArray, List.set_cons_zero, List.set_cons_succ]
  refine quiet_calls 4 #[.agg #[.int .i64 k1.kind, .string k1.s, .int .i64 k1.n, .slice ka1 k1.k.length ca1]] r1 rfl (fun w' hw' => ?_) (fun w' hw' => part_class HI1.out HT1.out hw') ?_
  · go_simp
  simp only [Act.put, List.setIfInBounds_toArray, List.set_cons_zero, List.set_cons_succ]
  refine quiet_runs (.pointer (some ⟨w.heap.size, 3, none⟩)) rfl (fun w' hw' => ?_) ?_
  · go_simp
  simp only [Act.put, List.setIfInBounds_toArray, List.set_cons_zero, List.set_cons_succ]
  refine quiet_runs (.slice (some ⟨b, o, none⟩) 3 cap) rfl (fun w' hw' => ?_) ?_
  · obtain ⟨x1, x2, x3, y00, y01, y02, y03, y10, y11, y12, y13, y20, y21, y22, y23⟩ := HF.out w' hw'
    go_simp
  simp only [Act.put, List.setIfInBounds_toArray, List.set_cons_zero, List.set_cons_succ]
  refine quiet_runs (.pointer (some ⟨b, o + 8, none⟩)) rfl (fun w' hw' => ?_) ?_
  · go_simp
  simp only [Act.put, List.setIfInBounds_toArray, List.set_cons_zero, List.set_cons_succ]
  refine quiet_runs (.agg #[.int .i64 k2.kind, .string k2.s, .int .i64 k2.n, .slice ka2 k2.k.length ca2]) rfl (fun w' hw' => ?_) ?_
  · obtain ⟨x1, x2, x3, y00, y01, y02, y03, y10, y11, y12, y13, y20, y21, y22, y23⟩ := HF.out w' hw'
    go_simp
  simp only [Act.put, List.setIfInBounds_toArray, List.set_cons_zero, List.set_cons_succ]
  refine quiet_calls 4 #[.agg #[.int .i64 k2.kind, .string k2.s, .int .i64 k2.n, .slice ka2 k2.k.length ca2]] r2 rfl (fun w' hw' => ?_) (fun w' hw' => part_class HI2.out HT2.out hw') ?_
  · go_simp
  simp only [Act.put, List.setIfInBounds_toArray, List.set_cons_zero, List.set_cons_succ]
  refine quiet_runs (.agg #[r0, r1, r2]) rfl (fun w' hw' => ?_) ?_
  · go_simp
  simp only [Act.put, List.setIfInBounds_toArray, List.set_cons_zero, List.set_cons_succ]
  refine quiet_runs (.iface 71 (.agg #[r0, r1, r2])) rfl (fun w' hw' => ?_) ?_
  · go_simp
  simp only [Act.put, List.setIfInBounds_toArray, List.set_cons_zero, List.set_cons_succ]
  refine quiet_runs (.iface 71 (.agg #[r0, r1, r2])) rfl (fun w' hw' => ?_) ?_
  · go_simp
  simp only [Act.put, List.setIfInBounds_toArray, List.set_cons_zero, List.set_cons_succ]
  refine wpQuiet_nil ?_
  intro w' hw'
  go_wp2_with fail
  go_ret
  exact ⟨rfl, HB.out.trans (hw'.mono HB.out.size)⟩

end Go.Proofs.Ytcdkejnnbbkecaa
namespace Go.Proofs.Ytcdkejnnbbkecaa
open Go.RowKit
set_option linter.unusedVariables false

mutual
/-- The contract that a tree stands for. -/
def termOf : T → C
  | .mk kind s n k => if kind = 1 then .zero else if kind = 2 then .one s else match kind, k with
    | 3, [a] => .give (termOf a)
    | 4, [a, b] => .and (termOf a) (termOf b)
    | 5, [a, b] => .or s (termOf a) (termOf b)
    | 6, [o, a] => .scale (obsOf o) (termOf a)
    | 7, [a] => .when n (termOf a)
    | 8, [o, a, b] => .iff (obsOf o) (termOf a) (termOf b)
    | _, _ => .odd .nilIface
end
/-- A tree whose contracts have as many parts as they need. -/
inductive SC : T → Prop
  | leaf (kind : Int) (s : ByteArray) (n : Int) (k : List T) (h : kind = 0 ∨ kind = 1 ∨ kind = 2 ∨ 8 < kind) (hs : s.size ≤ 2147483648) : SC (.mk kind s n k)
  | give (s : ByteArray) (n : Int) (a : T) (ha : SC a) : SC (.mk 3 s n [a])
  | and (s : ByteArray) (n : Int) (a b : T) (ha : SC a) (hb : SC b) : SC (.mk 4 s n [a, b])
  | or (s : ByteArray) (n : Int) (a b : T) (hs : s.size ≤ 2147483648) (ha : SC a) (hb : SC b) : SC (.mk 5 s n [a, b])
  | scale (s : ByteArray) (n : Int) (o a : T) (ho : o.Shaped) (ha : SC a) : SC (.mk 6 s n [o, a])
  | when (s : ByteArray) (n : Int) (a : T) (hn : -9223372036854775808 ≤ n ∧ n ≤ 9223372036854775807) (ha : SC a) : SC (.mk 7 s n [a])
  | iff (s : ByteArray) (n : Int) (o a b : T) (ho : o.Shaped) (ha : SC a) (hb : SC b) : SC (.mk 8 s n [o, a, b])
theorem termOf_ok {t : T} (h : SC t) : (termOf t).Ok := by
  induction h with
  | leaf kind s n k h hs =>
    unfold termOf
    split
    · trivial
    · split
      · exact hs
      · rcases h with rfl | rfl | rfl | h
        · exact .inl rfl
        · contradiction
        · contradiction
        · split <;> first | omega | exact .inl rfl
  | give s n a ha iha => exact iha
  | and s n a b ha hb iha ihb => exact ⟨iha, ihb⟩
  | or s n a b hs ha hb iha ihb => exact ⟨hs, iha, ihb⟩
  | scale s n o a ho ha iha => exact ⟨obsOf_ok o ho, iha⟩
  | when s n a hn ha iha => exact ⟨hn, iha⟩
  | iff s n o a b ho ha hb iha ihb => exact ⟨obsOf_ok o ho, iha, ihb⟩
def TermPost (w : World) (c : C) (e : Ending) (w' : World) : Prop := e = .returned c.val ∧ Below w.heap.size w w'

set_option maxHeartbeats 1000000 in
set_option maxRecDepth 100000 in
theorem termT_zero (s : ByteArray) (n : Int) (a : Option Addr) (l cap : Nat) (w : World) :
    Calls Try.prog 4 #[.agg #[.int .i64 1, .string s, .int .i64 n, .slice a l cap]] w (TermPost w .zero) := by
  go_enter Try.func4, Try.ntmps4
  go_wp2_with fail
  go_ret
  exact ⟨rfl, below_alloc (Below.refl _ _) _⟩
set_option maxHeartbeats 1000000 in
set_option maxRecDepth 100000 in
theorem termT_one (s : ByteArray) (n : Int) (a : Option Addr) (l cap : Nat) (w : World) :
    Calls Try.prog 4 #[.agg #[.int .i64 2, .string s, .int .i64 n, .slice a l cap]] w (TermPost w (.one s)) := by
  go_enter Try.func4, Try.ntmps4
  go_wp2_with fail
  go_ret
  exact ⟨rfl, below_alloc (Below.refl _ _) _⟩
set_option maxHeartbeats 1000000 in
set_option maxRecDepth 100000 in
theorem termT_none (kind : Int) (s : ByteArray) (n : Int) (a : Option Addr) (l cap : Nat) (w : World) (h : kind = 0 ∨ 8 < kind) :
    Calls Try.prog 4 #[.agg #[.int .i64 kind, .string s, .int .i64 n, .slice a l cap]] w (TermPost w (.odd .nilIface)) := by
  have e1 : (kind == 1) = false := by rw [beq_eq_false_iff_ne]; omega
  have e2 : (kind == 2) = false := by rw [beq_eq_false_iff_ne]; omega
  have e3 : (kind == 3) = false := by rw [beq_eq_false_iff_ne]; omega
  have e4 : (kind == 4) = false := by rw [beq_eq_false_iff_ne]; omega
  have e5 : (kind == 5) = false := by rw [beq_eq_false_iff_ne]; omega
  have e6 : (kind == 6) = false := by rw [beq_eq_false_iff_ne]; omega
  have e7 : (kind == 7) = false := by rw [beq_eq_false_iff_ne]; omega
  have e8 : (kind == 8) = false := by rw [beq_eq_false_iff_ne]; omega
  clear h
  go_enter Try.func4, Try.ntmps4
  go_wp2_with fail
  go_ret
  exact ⟨rfl, below_alloc (Below.refl _ _) _⟩
set_option maxHeartbeats 1000000 in
set_option maxRecDepth 100000 in
theorem termT_give (k0 : T) (s : ByteArray) (n : Int) (a : Option Addr) (cap : Nat) (w : World) (hcap : 1 ≤ cap) (hcm : cap ≤ 9223372036854775807) (hK : KAt w 0 [k0] a 0) (r0 : Value) (q0 : One' r0)
    (ih0 : ∀ w v, TIn w 0 k0 v → Calls Try.prog 4 #[v] w fun e w' => e = .returned r0 ∧ Below w.heap.size w w') :
    Calls Try.prog 4 #[.agg #[.int .i64 3, .string s, .int .i64 n, .slice a 1 cap]] w fun e w' => e = .returned (.iface 47 (.agg #[r0])) ∧ Below w.heap.size w w' := by
  have hb : Below w.heap.size w (w.alloc (.cells #[.int .i64 3, .string s, .int .i64 n, .slice a 1 cap] 30)) := below_alloc (Below.refl _ _) _
  obtain ⟨b, o, ka, ca, rfl, c0, c1, c2, c3, t0⟩ := (hK.below hb).cells (j := 0) (t := k0) rfl
  simp only [Nat.zero_mul, Nat.add_zero] at c0 c1 c2 c3
  have HT0 := hidIn t0
  have HI0 := hidIn ih0
  have cv := q0.cells
  have mv := q0.cells
  unfold Value.cells at mv
  clear hK t0 ih0 q0
  go_enter Try.func4, Try.ntmps4
  go_wp2_with fail
  refine (HI0.out _ _ HT0.out).mono ?_
  rintro e w2 ⟨rfl, hb2⟩
  go_wp2_with fail
  go_ret
  exact ⟨rfl, hb.trans (hb2.mono hb.size)⟩

theorem termT_any {t : T} (h : SC t) : ∀ w v, TIn w 0 t v → Calls Try.prog 4 #[v] w (TermPost w (termOf t)) := by
  induction h with
  | leaf kind s n k h hs =>
    rintro w v ⟨a, cap, rfl, hc1, hc2, hK⟩
    simp only [T.kind, T.s, T.n, T.k]
    by_cases h1 : kind = 1
    · subst h1
      have : termOf (.mk 1 s n k) = .zero := by unfold termOf; rw [if_pos rfl]
      rw [this]
      exact termT_zero s n a k.length cap w
    by_cases h2 : kind = 2
    · subst h2
      have : termOf (.mk 2 s n k) = .one s := by unfold termOf; rw [if_neg (by decide), if_pos rfl]
      rw [this]
      exact termT_one s n a k.length cap w
    have hodd : termOf (.mk kind s n k) = .odd .nilIface := by
      unfold termOf
      rw [if_neg h1, if_neg h2]
      split <;> first | omega | rfl
    rw [hodd]
    exact termT_none kind s n a k.length cap w (by omega)
  | give s n a ha iha =>
    rintro w v ⟨x, cap, rfl, hc1, hc2, hK⟩
    exact termT_give a s n x cap w hc1 hc2 hK _ ((termOf a).one' (termOf_ok ha)) iha
  | and s n a b ha hb iha ihb =>
    rintro w v ⟨x, cap, rfl, hc1, hc2, hK⟩
    exact termT_and a b s n x cap w hc1 hc2 hK _ _ ((termOf a).one' (termOf_ok ha)) ((termOf b).one' (termOf_ok hb)) iha ihb
  | or s n a b hs ha hb iha ihb =>
    rintro w v ⟨x, cap, rfl, hc1, hc2, hK⟩
    exact termT_or a b s n x cap w hc1 hc2 hK _ _ ((termOf a).one' (termOf_ok ha)) ((termOf b).one' (termOf_ok hb)) iha ihb
  | scale s n o a ho ha iha =>
    rintro w v ⟨x, cap, rfl, hc1, hc2, hK⟩
    exact termT_scale o a s n x cap w hc1 hc2 hK _ _ ((obsOf o).one' (obsOf_ok o ho)) ((termOf a).one' (termOf_ok ha)) (obsT_any o ho) iha
  | when s n a hn ha iha =>
    rintro w v ⟨x, cap, rfl, hc1, hc2, hK⟩
    exact termT_when a s n x cap w hc1 hc2 hK _ ((termOf a).one' (termOf_ok ha)) iha
  | iff s n o a b ho ha hb iha ihb =>
    rintro w v ⟨x, cap, rfl, hc1, hc2, hK⟩
    exact termT_iff o a b s n x cap w hc1 hc2 hK _ _ _ ((obsOf o).one' (obsOf_ok o ho)) ((termOf a).one' (termOf_ok ha)) ((termOf b).one' (termOf_ok hb)) (obsT_any o ho) iha ihb

end Go.Proofs.Ytcdkejnnbbkecaa
