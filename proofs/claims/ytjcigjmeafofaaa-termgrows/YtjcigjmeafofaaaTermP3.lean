/- The contract of a tree, as the statements make it: by a test. -/
import Derived.Test.YtjcigjmeafofaaaTermP0
namespace Go.Proofs.Ytjcigjmeafofaaa
open Go.RowKit
set_option linter.unusedVariables false

set_option maxHeartbeats 2000000 in
set_option maxRecDepth 100000 in
theorem termT_iff (k0 k1 k2 : T) (s : ByteArray) (n : Int) (a : Option Addr) (cap : Nat) (w : World) (hcap : 3 ≤ cap) (hcm : cap ≤ 9223372036854775807) (hK : KAt w 0 [k0, k1, k2] a 0) (r0 r1 r2 : Value) (q0 : One' r0) (q1 : One' r1) (q2 : One' r2)
    (ih0 : ∀ w v, TIn w 0 k0 v → Calls Try.prog 27 #[v] w fun e w' => e = .returned r0 ∧ Below w.heap.size w w') (ih1 : ∀ w v, TIn w 0 k1 v → Calls Try.prog 9 #[v] w fun e w' => e = .returned r1 ∧ Below w.heap.size w w') (ih2 : ∀ w v, TIn w 0 k2 v → Calls Try.prog 9 #[v] w fun e w' => e = .returned r2 ∧ Below w.heap.size w w') :
    Calls Try.prog 9 #[.agg #[.int .i64 8, .string s, .int .i64 n, .slice a 3 cap]] w fun e w' => e = .returned (.iface 53 (.agg #[r0, r1, r2])) ∧ Below w.heap.size w w' := by
  have hb : Below w.heap.size w (w.alloc (.cells #[.int .i64 8, .string s, .int .i64 n, .slice a 3 cap] 30)) := below_alloc (Below.refl _ _) _
  obtain ⟨b, o, ka0, ca0, rfl, c00, c01, c02, c03, t0⟩ := (hK.below hb).cells (j := 0) (t := k0) rfl
  obtain ⟨b1, o1, ka1, ca1, e1, c10, c11, c12, c13, t1⟩ := (hK.below hb).cells (j := 1) (t := k1) rfl
  injection e1 with e1
  injection e1 with e1a e1b
  subst e1a e1b
  obtain ⟨b2, o2, ka2, ca2, e2, c20, c21, c22, c23, t2⟩ := (hK.below hb).cells (j := 2) (t := k2) rfl
  injection e2 with e2
  injection e2 with e2a e2b
  subst e2a e2b
  simp only [Nat.zero_mul, Nat.add_zero, Nat.one_mul, show 2 * 4 = 8 from rfl] at c00 c01 c02 c03 c10 c11 c12 c13 c20 c21 c22 c23
  have g : ∀ i, (w.alloc (.cells #[.int .i64 8, .string s, .int .i64 n, .slice (some ⟨b, o, none⟩) 3 cap] 30)).cell? ⟨w.heap.size, i, none⟩ = (#[.int .i64 8, .string s, .int .i64 n, .slice (some ⟨b, o, none⟩) 3 cap] : Array Value)[i]? := fun i => cell_of_row _ _ _ _ _ _ (heap_alloc_new _ _)
  have g1 := g 1
  have g2 := g 2
  have g3 := g 3
  rw [show (#[.int .i64 8, .string s, .int .i64 n, .slice (some ⟨b, o, none⟩) 3 cap] : Array Value)[1]? = some (.string s) from rfl] at g1
  rw [show (#[.int .i64 8, .string s, .int .i64 n, .slice (some ⟨b, o, none⟩) 3 cap] : Array Value)[2]? = some (.int .i64 n) from rfl] at g2
  rw [show (#[.int .i64 8, .string s, .int .i64 n, .slice (some ⟨b, o, none⟩) 3 cap] : Array Value)[3]? = some (.slice (some ⟨b, o, none⟩) 3 cap) from rfl] at g3
  clear hK g
  have HI0 := hidIn ih0
  have cv0 := q0.cells
  have mv0 := q0.cells
  unfold Value.cells at mv0
  have HI1 := hidIn ih1
  have cv1 := q1.cells
  have mv1 := q1.cells
  unfold Value.cells at mv1
  have HI2 := hidIn ih2
  have cv2 := q2.cells
  have mv2 := q2.cells
  unfold Value.cells at mv2
  clear ih0 q0 ih1 q1 ih2 q2
  go_enter Try.func9, Try.ntmps9
  go_wp2_with fail
  generalize w.alloc (.cells #[.int .i64 8, .string s, .int .i64 n, .slice (some ⟨b, o, none⟩) 3 cap] 30) = W at *
  have HT0 : Hid (TIn W 0 k0 _) := t0
  have HT1 : Hid (TIn W 0 k1 _) := t1
  have HT2 : Hid (TIn W 0 k2 _) := t2
  have HB : Hid (Below w.heap.size w W) := hb
  have HLT := World.block_lt_of_cell? _ _ c00
  have HLW := World.block_lt_of_cell? _ _ g3
  have HF : Hid (∀ w', Below W.heap.size W w' → w'.cell? ⟨w.heap.size, 1, none⟩ = some (.string s) ∧ w'.cell? ⟨w.heap.size, 2, none⟩ = some (.int .i64 n) ∧ w'.cell? ⟨w.heap.size, 3, none⟩ = some (.slice (some ⟨b, o, none⟩) 3 cap) ∧ w'.cell? ⟨b, o, none⟩ = some (.int .i64 k0.kind) ∧ w'.cell? ⟨b, o + 1, none⟩ = some (.string k0.s) ∧ w'.cell? ⟨b, o + 2, none⟩ = some (.int .i64 k0.n) ∧ w'.cell? ⟨b, o + 3, none⟩ = some (.slice ka0 k0.k.length ca0) ∧ w'.cell? ⟨b, o + 4, none⟩ = some (.int .i64 k1.kind) ∧ w'.cell? ⟨b, o + 4 + 1, none⟩ = some (.string k1.s) ∧ w'.cell? ⟨b, o + 4 + 2, none⟩ = some (.int .i64 k1.n) ∧ w'.cell? ⟨b, o + 4 + 3, none⟩ = some (.slice ka1 k1.k.length ca1) ∧ w'.cell? ⟨b, o + 8, none⟩ = some (.int .i64 k2.kind) ∧ w'.cell? ⟨b, o + 8 + 1, none⟩ = some (.string k2.s) ∧ w'.cell? ⟨b, o + 8 + 2, none⟩ = some (.int .i64 k2.n) ∧ w'.cell? ⟨b, o + 8 + 3, none⟩ = some (.slice ka2 k2.k.length ca2)) := fun w' h => ⟨(h.cell (p := ⟨w.heap.size, 1, none⟩) HLW).trans g1, (h.cell (p := ⟨w.heap.size, 2, none⟩) HLW).trans g2, (h.cell (p := ⟨w.heap.size, 3, none⟩) HLW).trans g3, (h.cell (p := ⟨b, o, none⟩) HLT).trans c00, (h.cell (p := ⟨b, o + 1, none⟩) HLT).trans c01, (h.cell (p := ⟨b, o + 2, none⟩) HLT).trans c02, (h.cell (p := ⟨b, o + 3, none⟩) HLT).trans c03, (h.cell (p := ⟨b, o + 4, none⟩) HLT).trans c10, (h.cell (p := ⟨b, o + 4 + 1, none⟩) HLT).trans c11, (h.cell (p := ⟨b, o + 4 + 2, none⟩) HLT).trans c12, (h.cell (p := ⟨b, o + 4 + 3, none⟩) HLT).trans c13, (h.cell (p := ⟨b, o + 8, none⟩) HLT).trans c20, (h.cell (p := ⟨b, o + 8 + 1, none⟩) HLT).trans c21, (h.cell (p := ⟨b, o + 8 + 2, none⟩) HLT).trans c22, (h.cell (p := ⟨b, o + 8 + 3, none⟩) HLT).trans c23⟩
  clear hb HLT HLW g1 g2 g3 c00 c01 c02 c03 c10 c11 c12 c13 c20 c21 c22 c23 t0 t1 t2
  refine wp_region_class (fun w' => Below W.heap.size W w') (by kernel_rfl) (by kernel_rfl) (below_drew (Below.refl _ _)) ?_
  refine quiet_runs (.pointer (some ⟨w.heap.size, 3, none⟩)) rfl (fun w' hw' => ?_) ?_
  · go_simp
  simp only [Act.put, List.setIfInBounds_toArray, List.set_cons_zero, List.set_cons_succ]
  refine quiet_runs (.slice (some ⟨b, o, none⟩) 3 cap) rfl (fun w' hw' => ?_) ?_
  · obtain ⟨x1, x2, x3, y00, y01, y02, y03, y10, y11, y12, y13, y20, y21, y22, y23⟩ := HF.out w' hw'
    go_simp
  simp only [Act.put, List.setIfInBounds_toArray, List.set_cons_zero, List.set_cons_succ]
  refine quiet_runs (.pointer (some ⟨b, o, none⟩)) rfl (fun w' hw' => ?_) ?_
  · go_simp
  simp only [Act.put, List.setIfInBounds_toArray, List.set_cons_zero, List.set_cons_succ]
  refine quiet_runs (.agg #[.int .i64 k0.kind, .string k0.s, .int .i64 k0.n, .slice ka0 k0.k.length ca0]) rfl (fun w' hw' => ?_) ?_
  · obtain ⟨x1, x2, x3, y00, y01, y02, y03, y10, y11, y12, y13, y20, y21, y22, y23⟩ := HF.out w' hw'
    go_simp
  simp only [Act.put, List.setIfInBounds_toArray, List.set_cons_zero, List.set_cons_succ]
  refine quiet_calls 27 #[.agg #[.int .i64 k0.kind, .string k0.s, .int .i64 k0.n, .slice ka0 k0.k.length ca0]] r0 rfl (fun w' hw' => ?_) (fun w' hw' => part_class HI0.out HT0.out hw') ?_
  · go_simp
  simp only [Act.put, List.setIfInBounds_toArray, List.set_cons_zero, List.set_cons_succ]
  refine quiet_runs (.pointer (some ⟨w.heap.size, 3, none⟩)) rfl (fun w' hw' => ?_) ?_
  · go_simp
  simp only [Act.put, List.setIfInBounds_toArray, List.set_cons_zero, List.set_cons_succ]
  refine quiet_runs (.slice (some ⟨b, o, none⟩) 3 cap) rfl (fun w' hw' => ?_) ?_
  · obtain ⟨x1, x2, x3, y00, y01, y02, y03, y10, y11, y12, y13, y20, y21, y22, y23⟩ := HF.out w' hw'
    go_simp
  simp only [Act.put, List.setIfInBounds_toArray, List.set_cons_zero, List.set_cons_succ]
  refine quiet_runs (.pointer (some ⟨b, o + 4, none⟩)) rfl (fun w' hw' => ?_) ?_
  · go_simp
  simp only [Act.put, List.setIfInBounds_toArray, List.set_cons_zero, List.set_cons_succ]
  refine quiet_runs (.agg #[.int .i64 k1.kind, .string k1.s, .int .i64 k1.n, .slice ka1 k1.k.length ca1]) rfl (fun w' hw' => ?_) ?_
  · obtain ⟨x1, x2, x3, y00, y01, y02, y03, y10, y11, y12, y13, y20, y21, y22, y23⟩ := HF.out w' hw'
    go_simp
  simp only [Act.put, List.setIfInBounds_toArray, List.set_cons_zero, List.set_cons_succ]
  refine quiet_calls 9 #[.agg #[.int .i64 k1.kind, .string k1.s, .int .i64 k1.n, .slice ka1 k1.k.length ca1]] r1 rfl (fun w' hw' => ?_) (fun w' hw' => part_class HI1.out HT1.out hw') ?_
  · go_simp
  simp only [Act.put, List.setIfInBounds_toArray, List.set_cons_zero, List.set_cons_succ]
  refine quiet_runs (.pointer (some ⟨w.heap.size, 3, none⟩)) rfl (fun w' hw' => ?_) ?_
  · go_simp
  simp only [Act.put, List.setIfInBounds_toArray, List.set_cons_zero, List.set_cons_succ]
  refine quiet_runs (.slice (some ⟨b, o, none⟩) 3 cap) rfl (fun w' hw' => ?_) ?_
  · obtain ⟨x1, x2, x3, y00, y01, y02, y03, y10, y11, y12, y13, y20, y21, y22, y23⟩ := HF.out w' hw'
    go_simp
  simp only [Act.put, List.setIfInBounds_toArray, List.set_cons_zero, List.set_cons_succ]
  refine quiet_runs (.pointer (some ⟨b, o + 8, none⟩)) rfl (fun w' hw' => ?_) ?_
  · go_simp
  simp only [Act.put, List.setIfInBounds_toArray, List.set_cons_zero, List.set_cons_succ]
  refine quiet_runs (.agg #[.int .i64 k2.kind, .string k2.s, .int .i64 k2.n, .slice ka2 k2.k.length ca2]) rfl (fun w' hw' => ?_) ?_
  · obtain ⟨x1, x2, x3, y00, y01, y02, y03, y10, y11, y12, y13, y20, y21, y22, y23⟩ := HF.out w' hw'
    go_simp
  simp only [Act.put, List.setIfInBounds_toArray, List.set_cons_zero, List.set_cons_succ]
  refine quiet_calls 9 #[.agg #[.int .i64 k2.kind, .string k2.s, .int .i64 k2.n, .slice ka2 k2.k.length ca2]] r2 rfl (fun w' hw' => ?_) (fun w' hw' => part_class HI2.out HT2.out hw') ?_
  · go_simp
  simp only [Act.put, List.setIfInBounds_toArray, List.set_cons_zero, List.set_cons_succ]
  refine quiet_runs (.agg #[r0, r1, r2]) rfl (fun w' hw' => ?_) ?_
  · go_simp
  simp only [Act.put, List.setIfInBounds_toArray, List.set_cons_zero, List.set_cons_succ]
  refine quiet_runs (.iface 53 (.agg #[r0, r1, r2])) rfl (fun w' hw' => ?_) ?_
  · go_simp
  simp only [Act.put, List.setIfInBounds_toArray, List.set_cons_zero, List.set_cons_succ]
  refine quiet_runs (.iface 53 (.agg #[r0, r1, r2])) rfl (fun w' hw' => ?_) ?_
  · go_simp
  simp only [Act.put, List.setIfInBounds_toArray, List.set_cons_zero, List.set_cons_succ]
  refine wpQuiet_nil ?_
  intro w' hw'
  go_wp2_with fail
  go_ret
  exact ⟨rfl, HB.out.trans (hw'.mono HB.out.size)⟩

end Go.Proofs.Ytjcigjmeafofaaa
