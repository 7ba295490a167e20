/- The text of a contract, as package write writes it. -/
import Derived.Test.YtkioolbjmcpjpaaGreatDoorWObs
namespace Go.Proofs.YtkioolbjmcpjpaaGreatDoor
open Go.RowKit
set_option linter.unusedVariables false

theorem oneIf (v : Value) (xT : TypeId) (w : World) : (Instr.typeAssert (.iface 111 v) xT 111 false).run Tryz.prog w = .ok v w := assert_one Tryz.underlying111 (by intro m h; cases h) v xT w
def textC : C → ByteArray
  | .zero => ⟨#[122, 101, 114, 111]⟩
  | .one s => joinT ⟨#[111, 110, 101]⟩ [s]
  | .give c => joinT ⟨#[103, 105, 118, 101]⟩ [textC c]
  | .and l r => joinT ⟨#[97, 110, 100]⟩ [textC l, textC r]
  | .or s l r => joinT ⟨#[111, 114]⟩ [s, textC l, textC r]
  | .scale o c => joinT ⟨#[115, 99, 97, 108, 101]⟩ [textO o, textC c]
  | .when d c => joinT ⟨#[119, 104, 101, 110]⟩ [numT d, textC c]
  | .iff o l r => joinT ⟨#[105, 102]⟩ [textO o, textC l, textC r]
  | .odd _ => ⟨#[]⟩
def WritesC (c : C) : Prop := ∀ w : World, TabW w → Calls Tryz.prog 53 #[c.val] w fun e w' => e = .returned (.string (textC c)) ∧ Below w.heap.size w w'
theorem row3 {w : World} {b t : Nat} {s u z : ByteArray} (hb : b = w.heap.size) : ∀ (j : Nat) (x : ByteArray), [s, u, z][j]? = some x → (w.alloc (.cells #[.string s, .string u, .string z] t)).cell? ⟨b, j, none⟩ = some (.string x) := by
  intro j x hj
  subst hb
  rw [cell_of_row _ _ _ _ _ _ (heap_alloc_new _ _)]
  match j, hj with
  | 0, hj => simp at hj; subst hj; rfl
  | 1, hj => simp at hj; subst hj; rfl
  | 2, hj => simp at hj; subst hj; rfl
/-- Three texts in a row. -/
def threeF (s u z : ByteArray) (v : Value) (w : World) : Prop := ∃ b, v = .slice (some ⟨b, 0, none⟩) 3 3 ∧ b < w.heap.size ∧ ∀ (j : Nat) (x : ByteArray), [s, u, z][j]? = some x → w.cell? ⟨b, j, none⟩ = some (.string x)
theorem threeF_stays (s u z : ByteArray) : ∀ v w w', Up w w' → threeF s u z v w → threeF s u z v w' := fun v w w' h ⟨b, e, hb, hc⟩ => ⟨b, e, Nat.lt_of_lt_of_le hb (Below.size h), fun j x hj => (Below.cell h (p := ⟨b, j, none⟩) hb).trans (hc j x hj)⟩
set_option maxHeartbeats 1000000 in
set_option maxRecDepth 100000 in
theorem termText_zero : WritesC .zero := by
  intro w ht
  have a0 := fun v xT w => isZero v xT w
  clear ht
  unfold C.val
  go_enter Tryz.func53, Tryz.ntmps53
  go_wp2_with fail
  go_ret
  exact ⟨rfl, by repeat first | exact Below.refl _ _ | refine below_alloc ?_ _⟩
set_option maxHeartbeats 1000000 in
set_option maxRecDepth 100000 in
theorem termText_one (s : ByteArray) (hs : (Lib.join ([s].map (·.data.toList)) [44]).length ≤ 70368744177664) : WritesC (.one s) := by
  intro w ht
  have a0 := fun v xT w => notZero 97 v xT w (by decide)
  have a1 := fun v xT w => isOne v xT w
  have HS := hidI hs
  clear hs ht
  unfold C.val
  go_enter Tryz.func53, Tryz.ntmps53
  go_wp2_with fail
  refine (join_any _ (w.heap.size + 1) 1 [s] _ (row1 (by simp)) (by simp) (by simp) (by simp) (by decide) HS.out).mono ?_
  rintro e w1 ⟨rfl, hb1⟩
  have HB := hidI ((below_alloc (below_alloc (Below.refl w.heap.size w) (.cells #[.string s] 97)) (.cells #[.string s] 9)).trans (hb1.mono (by simp; omega)))
  clear hb1
  go_wp2_with fail
  go_ret
  exact ⟨rfl, HB.out⟩
set_option maxHeartbeats 1000000 in
set_option maxRecDepth 100000 in
theorem termText_give (o : C) (q : One' o.val) (ih : WritesC o) (hs : (Lib.join ([textC o].map (·.data.toList)) [44]).length ≤ 70368744177664) : WritesC (.give o) := by
  intro w ht
  have a0 := fun v xT w => notZero 99 v xT w (by decide)
  have a1 := fun v xT w => notOne 99 v xT w (by decide)
  have a2 := fun v xT w => isGive v xT w
  have HS := hidI hs
  have HT := hidI ht
  have HI := hidI ih
  have hs0 := q.store
  have cv0 := q.cells
  have mv0 := q.cells
  unfold Value.cells at mv0
  clear hs ht ih q
  unfold C.val
  go_enter Tryz.func53, Tryz.ntmps53
  go_wp2_with fail
  refine (HI.out _ (tabW_below HT.out (below_alloc (Below.refl _ _) _))).mono ?_
  rintro e w1 ⟨rfl, hb1⟩
  have HB := hidI ((below_alloc (Below.refl w.heap.size w) (.cells #[o.val] 99)).trans (hb1.mono (by simp)))
  clear hb1
  go_wp2_with fail
  refine (join_any _ w1.heap.size 1 [textC o] _ (row1 rfl) (by simp) (by simp) (by simp) (by decide) HS.out).mono ?_
  rintro e w2 ⟨rfl, hb2⟩
  have HB2 := hidI ((below_alloc HB.out (.cells #[.string (textC o)] 9)).trans (hb2.mono (by have := HB.out.size; simp; omega)))
  clear hb2
  go_wp2_with fail
  go_ret
  exact ⟨rfl, HB2.out⟩
set_option maxHeartbeats 1000000 in
set_option maxRecDepth 100000 in
theorem termText_and (l r : C) (q0 : One' l.val) (ih0 : WritesC l) (q1 : One' r.val) (ih1 : WritesC r) (hs : (Lib.join ([textC l, textC r].map (·.data.toList)) [44]).length ≤ 70368744177664) : WritesC (.and l r) := by
  intro w ht
  have a0 := fun v xT w => notZero 101 v xT w (by decide)
  have a1 := fun v xT w => notOne 101 v xT w (by decide)
  have a2 := fun v xT w => notGive 101 v xT w (by decide)
  have a3 := fun v xT w => isAnd v xT w
  have HT := hidI ht
  have HE : Hid (textC (.and l r) = joinT ⟨#[97, 110, 100]⟩ [textC l, textC r]) := rfl
  obtain ⟨tx, HX⟩ : ∃ tx, Hid (joinT ⟨#[97, 110, 100]⟩ [textC l, textC r] = tx) := ⟨_, rfl⟩
  rw [HX.out] at HE
  have HS := hidI hs
  have HI0 : Hid (∀ w, TabW w → Calls Tryz.prog 53 #[l.val] w fun e w' => e = .returned (.string (textC l)) ∧ Below w.heap.size w w') := ih0
  have hs0 := q0.store
  have cv0 := q0.cells
  have mv0 := q0.cells
  unfold Value.cells at mv0
  have HI1 : Hid (∀ w, TabW w → Calls Tryz.prog 53 #[r.val] w fun e w' => e = .returned (.string (textC r)) ∧ Below w.heap.size w w') := ih1
  have hs1 := q1.store
  have cv1 := q1.cells
  have mv1 := q1.cells
  unfold Value.cells at mv1
  clear hs ht ih0 q0 ih1 q1
  unfold C.val
  go_enter Tryz.func53, Tryz.ntmps53
  go_wp2_with fail
  obtain ⟨W, hW⟩ : ∃ W, W = w.alloc (.cells #[l.val, r.val] 101) := ⟨_, rfl⟩
  have HB : Hid (Below w.heap.size w W) := by rw [hW]; exact below_alloc (Below.refl _ _) _
  have HBK : Hid (W.heap[w.heap.size]? = some (.cells #[l.val, r.val] 101 (0, 0))) := by rw [hW]; exact heap_alloc_new _ _
  rw [← hW]
  clear hW
  have HF : Hid (∀ w', Below W.heap.size W w' → w'.cell? ⟨w.heap.size, 0, none⟩ = some (l.val) ∧ w'.cell? ⟨w.heap.size, 1, none⟩ = some (r.val)) := fun w' hw' => by
    have hbk := (hw'.block _ (Array.getElem?_eq_some_iff.1 HBK.out).1).trans HBK.out
    exact ⟨(cell_of_row _ _ _ _ _ _ hbk).trans rfl, (cell_of_row _ _ _ _ _ _ hbk).trans rfl⟩
  have HTW : Hid (∀ w', Below W.heap.size W w' → TabW w') := fun w' hw' => tabW_below HT.out (HB.out.trans (hw'.mono HB.out.size))
  clear HBK
  generalize l.val = v0 at *
  generalize textC l = t0 at *
  generalize r.val = v1 at *
  generalize textC r = t1 at *
  clear hs0 cv0 mv0 hs1 cv1 mv1 a0 a1 a2 a3
  refine wp_region_grow (fun w' => Below W.heap.size W w') Up (modes [one (.pointer (some ⟨w.heap.size, 0, none⟩)), one (v0), one (.string t0), one (.pointer (some ⟨w.heap.size, 1, none⟩)), one (v1), one (.string t1), loose (twoF t0 t1), one (.string tx), one (.string tx)]) (by kernel_rfl) (by kernel_rfl) (up_class _) (below_drew (Below.refl _ _)) ?_
  generalize hops : (#[_, _, _, _, _, _, _, _, _] : Array Oper) = ops
  clear hops
  refine g_runs (.pointer (some ⟨w.heap.size, 0, none⟩)) grow_end Up.refl rfl (wanted_none rfl) (by intro d hd w; cases hd; exact trivial) (fun w' hw' => ?_) ?_
  · go_simp
  simp only [Act.put, List.setIfInBounds_toArray, List.set_cons_zero, List.set_cons_succ]
  refine g_runs (v0) grow_end Up.refl rfl (wanted_none rfl) (by intro d hd w; cases hd; exact trivial) (fun w' hw' => ?_) ?_
  · obtain ⟨y0, y1⟩ := HF.out w' hw'
    go_simp
  simp only [Act.put, List.setIfInBounds_toArray, List.set_cons_zero, List.set_cons_succ]
  refine g_calls 53 #[v0] (.string t0) grow_end rfl (wanted_none rfl) (by intro d hd w; cases hd; exact trivial) (fun w' hw' => ?_) (fun w' hw' hk => ?_) ?_
  · go_simp
  · refine (HI0.out w' (HTW.out w' hw')).mono ?_
    rintro e w3 ⟨rfl, hb3⟩
    exact ⟨rfl, hb3⟩
  simp only [Act.put, List.setIfInBounds_toArray, List.set_cons_zero, List.set_cons_succ]
  refine g_runs (.pointer (some ⟨w.heap.size, 1, none⟩)) grow_end Up.refl rfl (wanted_none rfl) (by intro d hd w; cases hd; exact trivial) (fun w' hw' => ?_) ?_
  · go_simp
  simp only [Act.put, List.setIfInBounds_toArray, List.set_cons_zero, List.set_cons_succ]
  refine g_runs (v1) grow_end Up.refl rfl (wanted_none rfl) (by intro d hd w; cases hd; exact trivial) (fun w' hw' => ?_) ?_
  · obtain ⟨y0, y1⟩ := HF.out w' hw'
    go_simp
  simp only [Act.put, List.setIfInBounds_toArray, List.set_cons_zero, List.set_cons_succ]
  refine g_calls 53 #[v1] (.string t1) grow_end rfl (wanted_none rfl) (by intro d hd w; cases hd; exact trivial) (fun w' hw' => ?_) (fun w' hw' hk => ?_) ?_
  · go_simp
  · refine (HI1.out w' (HTW.out w' hw')).mono ?_
    rintro e w3 ⟨rfl, hb3⟩
    exact ⟨rfl, hb3⟩
  simp only [Act.put, List.setIfInBounds_toArray, List.set_cons_zero, List.set_cons_succ]
  refine g_makes (twoF t0 t1) rfl (twoF_stays _ _) (wanted_none rfl) (fun w' hw' hk => ?_) (fun u39 => ?_)
  · refine ⟨.slice (some ⟨w'.heap.size, 0, none⟩) 2 2, w'.alloc (.cells #[.string t0, .string t1] 9), ?_, below_alloc (Below.refl _ _) _, w'.heap.size, rfl, by simp, row2 rfl⟩
    go_simp
  simp only [Act.put, List.setIfInBounds_toArray, List.set_cons_zero, List.set_cons_succ]
  refine g_calls 91 #[.string ⟨#[97, 110, 100]⟩, u39] (.string tx) grow_end rfl (wanted_none rfl) (by intro d hd w; cases hd; exact trivial) (fun w' hw' => ?_) (fun w' hw' hk => ?_) ?_
  · go_simp
  · obtain ⟨b, rfl, hb, hc⟩ : twoF t0 t1 u39 w' := hk 39 (looks_at (by simp [Op.operands, Call.operands]))
    refine (join_any _ b 2 [t0, t1] w' hc hb (by simp) (by simp) (by decide) HS.out).mono ?_
    rintro e w3 ⟨rfl, hb3⟩
    exact ⟨by rw [HX.out], hb3⟩
  simp only [Act.put, List.setIfInBounds_toArray, List.set_cons_zero, List.set_cons_succ]
  refine g_runs (.string tx) grow_end Up.refl rfl (wanted_none rfl) (by intro d hd w; cases hd; exact trivial) (fun w' hw' => ?_) ?_
  · go_simp
  simp only [Act.put, List.setIfInBounds_toArray, List.set_cons_zero, List.set_cons_succ]
  refine g_nil ?_
  intro w9 hw9 hk9
  go_wp2_with fail
  go_ret
  exact ⟨by rw [HE.out]; rfl, HB.out.trans (hw9.mono HB.out.size)⟩
set_option maxHeartbeats 1000000 in
set_option maxRecDepth 100000 in
theorem termText_or (s : ByteArray) (l r : C) (q1 : One' l.val) (ih1 : WritesC l) (q2 : One' r.val) (ih2 : WritesC r) (hs : (Lib.join ([s, textC l, textC r].map (·.data.toList)) [44]).length ≤ 70368744177664) : WritesC (.or s l r) := by
  intro w ht
  have a0 := fun v xT w => notZero 103 v xT w (by decide)
  have a1 := fun v xT w => notOne 103 v xT w (by decide)
  have a2 := fun v xT w => notGive 103 v xT w (by decide)
  have a3 := fun v xT w => notAnd 103 v xT w (by decide)
  have a4 := fun v xT w => isOr v xT w
  have HT := hidI ht
  have HE : Hid (textC (.or s l r) = joinT ⟨#[111, 114]⟩ [s, textC l, textC r]) := rfl
  obtain ⟨tx, HX⟩ : ∃ tx, Hid (joinT ⟨#[111, 114]⟩ [s, textC l, textC r] = tx) := ⟨_, rfl⟩
  rw [HX.out] at HE
  have HS := hidI hs
  have HI1 : Hid (∀ w, TabW w → Calls Tryz.prog 53 #[l.val] w fun e w' => e = .returned (.string (textC l)) ∧ Below w.heap.size w w') := ih1
  have hs1 := q1.store
  have cv1 := q1.cells
  have mv1 := q1.cells
  unfold Value.cells at mv1
  have HI2 : Hid (∀ w, TabW w → Calls Tryz.prog 53 #[r.val] w fun e w' => e = .returned (.string (textC r)) ∧ Below w.heap.size w w') := ih2
  have hs2 := q2.store
  have cv2 := q2.cells
  have mv2 := q2.cells
  unfold Value.cells at mv2
  clear hs ht ih1 q1 ih2 q2
  unfold C.val
  go_enter Tryz.func53, Tryz.ntmps53
  go_wp2_with fail
  obtain ⟨W, hW⟩ : ∃ W, W = w.alloc (.cells #[.string s, l.val, r.val] 103) := ⟨_, rfl⟩
  have HB : Hid (Below w.heap.size w W) := by rw [hW]; exact below_alloc (Below.refl _ _) _
  have HBK : Hid (W.heap[w.heap.size]? = some (.cells #[.string s, l.val, r.val] 103 (0, 0))) := by rw [hW]; exact heap_alloc_new _ _
  rw [← hW]
  clear hW
  have HF : Hid (∀ w', Below W.heap.size W w' → w'.cell? ⟨w.heap.size, 0, none⟩ = some (.string s) ∧ w'.cell? ⟨w.heap.size, 1, none⟩ = some (l.val) ∧ w'.cell? ⟨w.heap.size, 2, none⟩ = some (r.val)) := fun w' hw' => by
    have hbk := (hw'.block _ (Array.getElem?_eq_some_iff.1 HBK.out).1).trans HBK.out
    exact ⟨(cell_of_row _ _ _ _ _ _ hbk).trans rfl, (cell_of_row _ _ _ _ _ _ hbk).trans rfl, (cell_of_row _ _ _ _ _ _ hbk).trans rfl⟩
  have HTW : Hid (∀ w', Below W.heap.size W w' → TabW w') := fun w' hw' => tabW_below HT.out (HB.out.trans (hw'.mono HB.out.size))
  clear HBK
  generalize l.val = v1 at *
  generalize textC l = t1 at *
  generalize r.val = v2 at *
  generalize textC r = t2 at *
  clear hs1 cv1 mv1 hs2 cv2 mv2 a0 a1 a2 a3 a4
  refine wp_region_grow (fun w' => Below W.heap.size W w') Up (modes [one (.pointer (some ⟨w.heap.size, 0, none⟩)), one (.string s), one (.pointer (some ⟨w.heap.size, 1, none⟩)), one (v1), one (.string t1), one (.pointer (some ⟨w.heap.size, 2, none⟩)), one (v2), one (.string t2), loose (threeF s t1 t2), one (.string tx), one (.string tx)]) (by kernel_rfl) (by kernel_rfl) (up_class _) (below_drew (Below.refl _ _)) ?_
  generalize hops : (#[_, _, _, _, _, _, _, _, _, _, _] : Array Oper) = ops
  clear hops
  refine g_runs (.pointer (some ⟨w.heap.size, 0, none⟩)) grow_end Up.refl rfl (wanted_none rfl) (by intro d hd w; cases hd; exact trivial) (fun w' hw' => ?_) ?_
  · go_simp
  simp only [Act.put, List.setIfInBounds_toArray, List.set_cons_zero, List.set_cons_succ]
  refine g_runs (.string s) grow_end Up.refl rfl (wanted_none rfl) (by intro d hd w; cases hd; exact trivial) (fun w' hw' => ?_) ?_
  · obtain ⟨y0, y1, y2⟩ := HF.out w' hw'
    go_simp
  simp only [Act.put, List.setIfInBounds_toArray, List.set_cons_zero, List.set_cons_succ]
  refine g_runs (.pointer (some ⟨w.heap.size, 1, none⟩)) grow_end Up.refl rfl (wanted_none rfl) (by intro d hd w; cases hd; exact trivial) (fun w' hw' => ?_) ?_
  · go_simp
  simp only [Act.put, List.setIfInBounds_toArray, List.set_cons_zero, List.set_cons_succ]
  refine g_runs (v1) grow_end Up.refl rfl (wanted_none rfl) (by intro d hd w; cases hd; exact trivial) (fun w' hw' => ?_) ?_
  · obtain ⟨y0, y1, y2⟩ := HF.out w' hw'
    go_simp
  simp only [Act.put, List.setIfInBounds_toArray, List.set_cons_zero, List.set_cons_succ]
  refine g_calls 53 #[v1] (.string t1) grow_end rfl (wanted_none rfl) (by intro d hd w; cases hd; exact trivial) (fun w' hw' => ?_) (fun w' hw' hk => ?_) ?_
  · go_simp
  · refine (HI1.out w' (HTW.out w' hw')).mono ?_
    rintro e w3 ⟨rfl, hb3⟩
    exact ⟨rfl, hb3⟩
  simp only [Act.put, List.setIfInBounds_toArray, List.set_cons_zero, List.set_cons_succ]
  refine g_runs (.pointer (some ⟨w.heap.size, 2, none⟩)) grow_end Up.refl rfl (wanted_none rfl) (by intro d hd w; cases hd; exact trivial) (fun w' hw' => ?_) ?_
  · go_simp
  simp only [Act.put, List.setIfInBounds_toArray, List.set_cons_zero, List.set_cons_succ]
  refine g_runs (v2) grow_end Up.refl rfl (wanted_none rfl) (by intro d hd w; cases hd; exact trivial) (fun w' hw' => ?_) ?_
  · obtain ⟨y0, y1, y2⟩ := HF.out w' hw'
    go_simp
  simp only [Act.put, List.setIfInBounds_toArray, List.set_cons_zero, List.set_cons_succ]
  refine g_calls 53 #[v2] (.string t2) grow_end rfl (wanted_none rfl) (by intro d hd w; cases hd; exact trivial) (fun w' hw' => ?_) (fun w' hw' hk => ?_) ?_
  · go_simp
  · refine (HI2.out w' (HTW.out w' hw')).mono ?_
    rintro e w3 ⟨rfl, hb3⟩
    exact ⟨rfl, hb3⟩
  simp only [Act.put, List.setIfInBounds_toArray, List.set_cons_zero, List.set_cons_succ]
  refine g_makes (threeF s t1 t2) rfl (threeF_stays _ _ _) (wanted_none rfl) (fun w' hw' hk => ?_) (fun u52 => ?_)
  · refine ⟨.slice (some ⟨w'.heap.size, 0, none⟩) 3 3, w'.alloc (.cells #[.string s, .string t1, .string t2] 9), ?_, below_alloc (Below.refl _ _) _, w'.heap.size, rfl, by simp, row3 rfl⟩
    go_simp
  simp only [Act.put, List.setIfInBounds_toArray, List.set_cons_zero, List.set_cons_succ]
  refine g_calls 91 #[.string ⟨#[111, 114]⟩, u52] (.string tx) grow_end rfl (wanted_none rfl) (by intro d hd w; cases hd; exact trivial) (fun w' hw' => ?_) (fun w' hw' hk => ?_) ?_
  · go_simp
  · obtain ⟨b, rfl, hb, hc⟩ : threeF s t1 t2 u52 w' := hk 52 (looks_at (by simp [Op.operands, Call.operands]))
    refine (join_any _ b 3 [s, t1, t2] w' hc hb (by simp) (by simp) (by decide) HS.out).mono ?_
    rintro e w3 ⟨rfl, hb3⟩
    exact ⟨by rw [HX.out], hb3⟩
  simp only [Act.put, List.setIfInBounds_toArray, List.set_cons_zero, List.set_cons_succ]
  refine g_runs (.string tx) grow_end Up.refl rfl (wanted_none rfl) (by intro d hd w; cases hd; exact trivial) (fun w' hw' => ?_) ?_
  · go_simp
  simp only [Act.put, List.setIfInBounds_toArray, List.set_cons_zero, List.set_cons_succ]
  refine g_nil ?_
  intro w9 hw9 hk9
  go_wp2_with fail
  go_ret
  exact ⟨by rw [HE.out]; rfl, HB.out.trans (hw9.mono HB.out.size)⟩
set_option maxHeartbeats 1000000 in
set_option maxRecDepth 100000 in
theorem termText_scale (n : O) (c : C) (q0 : One' n.val) (ih0 : Writes n) (q1 : One' c.val) (ih1 : WritesC c) (hs : (Lib.join ([textO n, textC c].map (·.data.toList)) [44]).length ≤ 70368744177664) : WritesC (.scale n c) := by
  intro w ht
  have a0 := fun v xT w => notZero 107 v xT w (by decide)
  have a1 := fun v xT w => notOne 107 v xT w (by decide)
  have a2 := fun v xT w => notGive 107 v xT w (by decide)
  have a3 := fun v xT w => notAnd 107 v xT w (by decide)
  have a4 := fun v xT w => notOr 107 v xT w (by decide)
  have a5 := fun v xT w => isScale v xT w
  have HT := hidI ht
  have HE : Hid (textC (.scale n c) = joinT ⟨#[115, 99, 97, 108, 101]⟩ [textO n, textC c]) := rfl
  obtain ⟨tx, HX⟩ : ∃ tx, Hid (joinT ⟨#[115, 99, 97, 108, 101]⟩ [textO n, textC c] = tx) := ⟨_, rfl⟩
  rw [HX.out] at HE
  have HS := hidI hs
  have HI0 : Hid (∀ w, TabW w → Calls Tryz.prog 92 #[n.val] w fun e w' => e = .returned (.string (textO n)) ∧ Below w.heap.size w w') := ih0
  have hs0 := q0.store
  have cv0 := q0.cells
  have mv0 := q0.cells
  unfold Value.cells at mv0
  have HI1 : Hid (∀ w, TabW w → Calls Tryz.prog 53 #[c.val] w fun e w' => e = .returned (.string (textC c)) ∧ Below w.heap.size w w') := ih1
  have hs1 := q1.store
  have cv1 := q1.cells
  have mv1 := q1.cells
  unfold Value.cells at mv1
  clear hs ht ih0 q0 ih1 q1
  unfold C.val
  go_enter Tryz.func53, Tryz.ntmps53
  go_wp2_with fail
  obtain ⟨W, hW⟩ : ∃ W, W = w.alloc (.cells #[n.val, c.val] 107) := ⟨_, rfl⟩
  have HB : Hid (Below w.heap.size w W) := by rw [hW]; exact below_alloc (Below.refl _ _) _
  have HBK : Hid (W.heap[w.heap.size]? = some (.cells #[n.val, c.val] 107 (0, 0))) := by rw [hW]; exact heap_alloc_new _ _
  rw [← hW]
  clear hW
  have HF : Hid (∀ w', Below W.heap.size W w' → w'.cell? ⟨w.heap.size, 0, none⟩ = some (n.val) ∧ w'.cell? ⟨w.heap.size, 1, none⟩ = some (c.val)) := fun w' hw' => by
    have hbk := (hw'.block _ (Array.getElem?_eq_some_iff.1 HBK.out).1).trans HBK.out
    exact ⟨(cell_of_row _ _ _ _ _ _ hbk).trans rfl, (cell_of_row _ _ _ _ _ _ hbk).trans rfl⟩
  have HTW : Hid (∀ w', Below W.heap.size W w' → TabW w') := fun w' hw' => tabW_below HT.out (HB.out.trans (hw'.mono HB.out.size))
  clear HBK
  generalize n.val = v0 at *
  generalize textO n = t0 at *
  generalize c.val = v1 at *
  generalize textC c = t1 at *
  clear hs0 cv0 mv0 hs1 cv1 mv1 a0 a1 a2 a3 a4 a5
  refine wp_region_grow (fun w' => Below W.heap.size W w') Up (modes [one (.pointer (some ⟨w.heap.size, 0, none⟩)), one (v0), one (.string t0), one (.pointer (some ⟨w.heap.size, 1, none⟩)), one (v1), one (.string t1), loose (twoF t0 t1), one (.string tx), one (.string tx)]) (by kernel_rfl) (by kernel_rfl) (up_class _) (below_drew (Below.refl _ _)) ?_
  generalize hops : (#[_, _, _, _, _, _, _, _, _] : Array Oper) = ops
  clear hops
  refine g_runs (.pointer (some ⟨w.heap.size, 0, none⟩)) grow_end Up.refl rfl (wanted_none rfl) (by intro d hd w; cases hd; exact trivial) (fun w' hw' => ?_) ?_
  · go_simp
  simp only [Act.put, List.setIfInBounds_toArray, List.set_cons_zero, List.set_cons_succ]
  refine g_runs (v0) grow_end Up.refl rfl (wanted_none rfl) (by intro d hd w; cases hd; exact trivial) (fun w' hw' => ?_) ?_
  · obtain ⟨y0, y1⟩ := HF.out w' hw'
    go_simp
  simp only [Act.put, List.setIfInBounds_toArray, List.set_cons_zero, List.set_cons_succ]
  refine g_calls 92 #[v0] (.string t0) grow_end rfl (wanted_none rfl) (by intro d hd w; cases hd; exact trivial) (fun w' hw' => ?_) (fun w' hw' hk => ?_) ?_
  · go_simp
  · refine (HI0.out w' (HTW.out w' hw')).mono ?_
    rintro e w3 ⟨rfl, hb3⟩
    exact ⟨rfl, hb3⟩
  simp only [Act.put, List.setIfInBounds_toArray, List.set_cons_zero, List.set_cons_succ]
  refine g_runs (.pointer (some ⟨w.heap.size, 1, none⟩)) grow_end Up.refl rfl (wanted_none rfl) (by intro d hd w; cases hd; exact trivial) (fun w' hw' => ?_) ?_
  · go_simp
  simp only [Act.put, List.setIfInBounds_toArray, List.set_cons_zero, List.set_cons_succ]
  refine g_runs (v1) grow_end Up.refl rfl (wanted_none rfl) (by intro d hd w; cases hd; exact trivial) (fun w' hw' => ?_) ?_
  · obtain ⟨y0, y1⟩ := HF.out w' hw'
    go_simp
  simp only [Act.put, List.setIfInBounds_toArray, List.set_cons_zero, List.set_cons_succ]
  refine g_calls 53 #[v1] (.string t1) grow_end rfl (wanted_none rfl) (by intro d hd w; cases hd; exact trivial) (fun w' hw' => ?_) (fun w' hw' hk => ?_) ?_
  · go_simp
  · refine (HI1.out w' (HTW.out w' hw')).mono ?_
    rintro e w3 ⟨rfl, hb3⟩
    exact ⟨rfl, hb3⟩
  simp only [Act.put, List.setIfInBounds_toArray, List.set_cons_zero, List.set_cons_succ]
  refine g_makes (twoF t0 t1) rfl (twoF_stays _ _) (wanted_none rfl) (fun w' hw' hk => ?_) (fun u63 => ?_)
  · refine ⟨.slice (some ⟨w'.heap.size, 0, none⟩) 2 2, w'.alloc (.cells #[.string t0, .string t1] 9), ?_, below_alloc (Below.refl _ _) _, w'.heap.size, rfl, by simp, row2 rfl⟩
    go_simp
  simp only [Act.put, List.setIfInBounds_toArray, List.set_cons_zero, List.set_cons_succ]
  refine g_calls 91 #[.string ⟨#[115, 99, 97, 108, 101]⟩, u63] (.string tx) grow_end rfl (wanted_none rfl) (by intro d hd w; cases hd; exact trivial) (fun w' hw' => ?_) (fun w' hw' hk => ?_) ?_
  · go_simp
  · obtain ⟨b, rfl, hb, hc⟩ : twoF t0 t1 u63 w' := hk 63 (looks_at (by simp [Op.operands, Call.operands]))
    refine (join_any _ b 2 [t0, t1] w' hc hb (by simp) (by simp) (by decide) HS.out).mono ?_
    rintro e w3 ⟨rfl, hb3⟩
    exact ⟨by rw [HX.out], hb3⟩
  simp only [Act.put, List.setIfInBounds_toArray, List.set_cons_zero, List.set_cons_succ]
  refine g_runs (.string tx) grow_end Up.refl rfl (wanted_none rfl) (by intro d hd w; cases hd; exact trivial) (fun w' hw' => ?_) ?_
  · go_simp
  simp only [Act.put, List.setIfInBounds_toArray, List.set_cons_zero, List.set_cons_succ]
  refine g_nil ?_
  intro w9 hw9 hk9
  go_wp2_with fail
  go_ret
  exact ⟨by rw [HE.out]; rfl, HB.out.trans (hw9.mono HB.out.size)⟩
set_option maxHeartbeats 1000000 in
set_option maxRecDepth 100000 in
theorem termText_when (d : Int) (hd0 : -9223372036854775808 ≤ d) (hd1 : d ≤ 9223372036854775807) (c : C) (q1 : One' c.val) (ih1 : WritesC c) (hs : (Lib.join ([numT d, textC c].map (·.data.toList)) [44]).length ≤ 70368744177664) : WritesC (.when d c) := by
  intro w ht
  have a0 := fun v xT w => notZero 109 v xT w (by decide)
  have a1 := fun v xT w => notOne 109 v xT w (by decide)
  have a2 := fun v xT w => notGive 109 v xT w (by decide)
  have a3 := fun v xT w => notAnd 109 v xT w (by decide)
  have a4 := fun v xT w => notOr 109 v xT w (by decide)
  have a5 := fun v xT w => notScale 109 v xT w (by decide)
  have a6 := fun v xT w => isWhen v xT w
  have HT := hidI ht
  have HE : Hid (textC (.when d c) = joinT ⟨#[119, 104, 101, 110]⟩ [numT d, textC c]) := rfl
  obtain ⟨tx, HX⟩ : ∃ tx, Hid (joinT ⟨#[119, 104, 101, 110]⟩ [numT d, textC c] = tx) := ⟨_, rfl⟩
  rw [HX.out] at HE
  have HS := hidI hs
  obtain ⟨t0, HN0⟩ : ∃ x, Hid (numT d = x) := ⟨_, rfl⟩
  rw [HN0.out] at HX HS
  have HI1 : Hid (∀ w, TabW w → Calls Tryz.prog 53 #[c.val] w fun e w' => e = .returned (.string (textC c)) ∧ Below w.heap.size w w') := ih1
  have hs1 := q1.store
  have cv1 := q1.cells
  have mv1 := q1.cells
  unfold Value.cells at mv1
  clear hs ht ih1 q1
  unfold C.val
  go_enter Tryz.func53, Tryz.ntmps53
  go_wp2_with fail
  obtain ⟨W, hW⟩ : ∃ W, W = w.alloc (.cells #[.int .i64 d, c.val] 109) := ⟨_, rfl⟩
  have HB : Hid (Below w.heap.size w W) := by rw [hW]; exact below_alloc (Below.refl _ _) _
  have HBK : Hid (W.heap[w.heap.size]? = some (.cells #[.int .i64 d, c.val] 109 (0, 0))) := by rw [hW]; exact heap_alloc_new _ _
  rw [← hW]
  clear hW
  have HF : Hid (∀ w', Below W.heap.size W w' → w'.cell? ⟨w.heap.size, 0, none⟩ = some (.int .i64 d) ∧ w'.cell? ⟨w.heap.size, 1, none⟩ = some (c.val)) := fun w' hw' => by
    have hbk := (hw'.block _ (Array.getElem?_eq_some_iff.1 HBK.out).1).trans HBK.out
    exact ⟨(cell_of_row _ _ _ _ _ _ hbk).trans rfl, (cell_of_row _ _ _ _ _ _ hbk).trans rfl⟩
  have HTW : Hid (∀ w', Below W.heap.size W w' → TabW w') := fun w' hw' => tabW_below HT.out (HB.out.trans (hw'.mono HB.out.size))
  clear HBK
  generalize c.val = v1 at *
  generalize textC c = t1 at *
  clear hs1 cv1 mv1 a0 a1 a2 a3 a4 a5 a6
  refine wp_region_grow (fun w' => Below W.heap.size W w') Up (modes [one (.pointer (some ⟨w.heap.size, 0, none⟩)), one (.int .i64 d), one (.string t0), one (.pointer (some ⟨w.heap.size, 1, none⟩)), one (v1), one (.string t1), loose (twoF t0 t1), one (.string tx), one (.string tx)]) (by kernel_rfl) (by kernel_rfl) (up_class _) (below_drew (Below.refl _ _)) ?_
  generalize hops : (#[_, _, _, _, _, _, _, _, _] : Array Oper) = ops
  clear hops
  refine g_runs (.pointer (some ⟨w.heap.size, 0, none⟩)) grow_end Up.refl rfl (wanted_none rfl) (by intro d hd w; cases hd; exact trivial) (fun w' hw' => ?_) ?_
  · go_simp
  simp only [Act.put, List.setIfInBounds_toArray, List.set_cons_zero, List.set_cons_succ]
  refine g_runs (.int .i64 d) grow_end Up.refl rfl (wanted_none rfl) (by intro d hd w; cases hd; exact trivial) (fun w' hw' => ?_) ?_
  · obtain ⟨y0, y1⟩ := HF.out w' hw'
    go_simp
  simp only [Act.put, List.setIfInBounds_toArray, List.set_cons_zero, List.set_cons_succ]
  refine g_calls 93 #[.int .i64 d] (.string t0) grow_end rfl (wanted_none rfl) (by intro d hd w; cases hd; exact trivial) (fun w' hw' => ?_) (fun w' hw' hk => ?_) ?_
  · go_simp
  · refine (itoa_any d hd0 hd1 w' (HTW.out w' hw')).mono ?_
    rintro e w3 ⟨rfl, hb3⟩
    exact ⟨by rw [HN0.out], hb3⟩
  simp only [Act.put, List.setIfInBounds_toArray, List.set_cons_zero, List.set_cons_succ]
  refine g_runs (.pointer (some ⟨w.heap.size, 1, none⟩)) grow_end Up.refl rfl (wanted_none rfl) (by intro d hd w; cases hd; exact trivial) (fun w' hw' => ?_) ?_
  · go_simp
  simp only [Act.put, List.setIfInBounds_toArray, List.set_cons_zero, List.set_cons_succ]
  refine g_runs (v1) grow_end Up.refl rfl (wanted_none rfl) (by intro d hd w; cases hd; exact trivial) (fun w' hw' => ?_) ?_
  · obtain ⟨y0, y1⟩ := HF.out w' hw'
    go_simp
  simp only [Act.put, List.setIfInBounds_toArray, List.set_cons_zero, List.set_cons_succ]
  refine g_calls 53 #[v1] (.string t1) grow_end rfl (wanted_none rfl) (by intro d hd w; cases hd; exact trivial) (fun w' hw' => ?_) (fun w' hw' hk => ?_) ?_
  · go_simp
  · refine (HI1.out w' (HTW.out w' hw')).mono ?_
    rintro e w3 ⟨rfl, hb3⟩
    exact ⟨rfl, hb3⟩
  simp only [Act.put, List.setIfInBounds_toArray, List.set_cons_zero, List.set_cons_succ]
  refine g_makes (twoF t0 t1) rfl (twoF_stays _ _) (wanted_none rfl) (fun w' hw' hk => ?_) (fun u74 => ?_)
  · refine ⟨.slice (some ⟨w'.heap.size, 0, none⟩) 2 2, w'.alloc (.cells #[.string t0, .string t1] 9), ?_, below_alloc (Below.refl _ _) _, w'.heap.size, rfl, by simp, row2 rfl⟩
    go_simp
  simp only [Act.put, List.setIfInBounds_toArray, List.set_cons_zero, List.set_cons_succ]
  refine g_calls 91 #[.string ⟨#[119, 104, 101, 110]⟩, u74] (.string tx) grow_end rfl (wanted_none rfl) (by intro d hd w; cases hd; exact trivial) (fun w' hw' => ?_) (fun w' hw' hk => ?_) ?_
  · go_simp
  · obtain ⟨b, rfl, hb, hc⟩ : twoF t0 t1 u74 w' := hk 74 (looks_at (by simp [Op.operands, Call.operands]))
    refine (join_any _ b 2 [t0, t1] w' hc hb (by simp) (by simp) (by decide) HS.out).mono ?_
    rintro e w3 ⟨rfl, hb3⟩
    exact ⟨by rw [HX.out], hb3⟩
  simp only [Act.put, List.setIfInBounds_toArray, List.set_cons_zero, List.set_cons_succ]
  refine g_runs (.string tx) grow_end Up.refl rfl (wanted_none rfl) (by intro d hd w; cases hd; exact trivial) (fun w' hw' => ?_) ?_
  · go_simp
  simp only [Act.put, List.setIfInBounds_toArray, List.set_cons_zero, List.set_cons_succ]
  refine g_nil ?_
  intro w9 hw9 hk9
  go_wp2_with fail
  go_ret
  exact ⟨by rw [HE.out]; rfl, HB.out.trans (hw9.mono HB.out.size)⟩
set_option maxHeartbeats 1000000 in
set_option maxRecDepth 100000 in
theorem termText_if (n : O) (l r : C) (q0 : One' n.val) (ih0 : Writes n) (q1 : One' l.val) (ih1 : WritesC l) (q2 : One' r.val) (ih2 : WritesC r) (hs : (Lib.join ([textO n, textC l, textC r].map (·.data.toList)) [44]).length ≤ 70368744177664) : WritesC (.iff n l r) := by
  intro w ht
  have a0 := fun v xT w => notZero 111 v xT w (by decide)
  have a1 := fun v xT w => notOne 111 v xT w (by decide)
  have a2 := fun v xT w => notGive 111 v xT w (by decide)
  have a3 := fun v xT w => notAnd 111 v xT w (by decide)
  have a4 := fun v xT w => notOr 111 v xT w (by decide)
  have a5 := fun v xT w => notScale 111 v xT w (by decide)
  have a6 := fun v xT w => notWhen 111 v xT w (by decide)
  have a7 := fun v xT w => oneIf v xT w
  have HT := hidI ht
  have HE : Hid (textC (.iff n l r) = joinT ⟨#[105, 102]⟩ [textO n, textC l, textC r]) := rfl
  obtain ⟨tx, HX⟩ : ∃ tx, Hid (joinT ⟨#[105, 102]⟩ [textO n, textC l, textC r] = tx) := ⟨_, rfl⟩
  rw [HX.out] at HE
  have HS := hidI hs
  have HI0 : Hid (∀ w, TabW w → Calls Tryz.prog 92 #[n.val] w fun e w' => e = .returned (.string (textO n)) ∧ Below w.heap.size w w') := ih0
  have hs0 := q0.store
  have cv0 := q0.cells
  have mv0 := q0.cells
  unfold Value.cells at mv0
  have HI1 : Hid (∀ w, TabW w → Calls Tryz.prog 53 #[l.val] w fun e w' => e = .returned (.string (textC l)) ∧ Below w.heap.size w w') := ih1
  have hs1 := q1.store
  have cv1 := q1.cells
  have mv1 := q1.cells
  unfold Value.cells at mv1
  have HI2 : Hid (∀ w, TabW w → Calls Tryz.prog 53 #[r.val] w fun e w' => e = .returned (.string (textC r)) ∧ Below w.heap.size w w') := ih2
  have hs2 := q2.store
  have cv2 := q2.cells
  have mv2 := q2.cells
  unfold Value.cells at mv2
  clear hs ht ih0 q0 ih1 q1 ih2 q2
  unfold C.val
  go_enter Tryz.func53, Tryz.ntmps53
  go_wp2_with fail
  obtain ⟨W, hW⟩ : ∃ W, W = w.alloc (.cells #[n.val, l.val, r.val] 111) := ⟨_, rfl⟩
  have HB : Hid (Below w.heap.size w W) := by rw [hW]; exact below_alloc (Below.refl _ _) _
  have HBK : Hid (W.heap[w.heap.size]? = some (.cells #[n.val, l.val, r.val] 111 (0, 0))) := by rw [hW]; exact heap_alloc_new _ _
  rw [← hW]
  clear hW
  have HF : Hid (∀ w', Below W.heap.size W w' → w'.cell? ⟨w.heap.size, 0, none⟩ = some (n.val) ∧ w'.cell? ⟨w.heap.size, 1, none⟩ = some (l.val) ∧ w'.cell? ⟨w.heap.size, 2, none⟩ = some (r.val)) := fun w' hw' => by
    have hbk := (hw'.block _ (Array.getElem?_eq_some_iff.1 HBK.out).1).trans HBK.out
    exact ⟨(cell_of_row _ _ _ _ _ _ hbk).trans rfl, (cell_of_row _ _ _ _ _ _ hbk).trans rfl, (cell_of_row _ _ _ _ _ _ hbk).trans rfl⟩
  have HTW : Hid (∀ w', Below W.heap.size W w' → TabW w') := fun w' hw' => tabW_below HT.out (HB.out.trans (hw'.mono HB.out.size))
  clear HBK
  generalize n.val = v0 at *
  generalize textO n = t0 at *
  generalize l.val = v1 at *
  generalize textC l = t1 at *
  generalize r.val = v2 at *
  generalize textC r = t2 at *
  clear hs0 cv0 mv0 hs1 cv1 mv1 hs2 cv2 mv2 a0 a1 a2 a3 a4 a5 a6 a7
  refine wp_region_grow (fun w' => Below W.heap.size W w') Up (modes [one (.pointer (some ⟨w.heap.size, 0, none⟩)), one (v0), one (.string t0), one (.pointer (some ⟨w.heap.size, 1, none⟩)), one (v1), one (.string t1), one (.pointer (some ⟨w.heap.size, 2, none⟩)), one (v2), one (.string t2), loose (threeF t0 t1 t2), one (.string tx), one (.string tx)]) (by kernel_rfl) (by kernel_rfl) (up_class _) (below_drew (Below.refl _ _)) ?_
  generalize hops : (#[_, _, _, _, _, _, _, _, _, _, _, _] : Array Oper) = ops
  clear hops
  refine g_runs (.pointer (some ⟨w.heap.size, 0, none⟩)) grow_end Up.refl rfl (wanted_none rfl) (by intro d hd w; cases hd; exact trivial) (fun w' hw' => ?_) ?_
  · go_simp
  simp only [Act.put, List.setIfInBounds_toArray, List.set_cons_zero, List.set_cons_succ]
  refine g_runs (v0) grow_end Up.refl rfl (wanted_none rfl) (by intro d hd w; cases hd; exact trivial) (fun w' hw' => ?_) ?_
  · obtain ⟨y0, y1, y2⟩ := HF.out w' hw'
    go_simp
  simp only [Act.put, List.setIfInBounds_toArray, List.set_cons_zero, List.set_cons_succ]
  refine g_calls 92 #[v0] (.string t0) grow_end rfl (wanted_none rfl) (by intro d hd w; cases hd; exact trivial) (fun w' hw' => ?_) (fun w' hw' hk => ?_) ?_
  · go_simp
  · refine (HI0.out w' (HTW.out w' hw')).mono ?_
    rintro e w3 ⟨rfl, hb3⟩
    exact ⟨rfl, hb3⟩
  simp only [Act.put, List.setIfInBounds_toArray, List.set_cons_zero, List.set_cons_succ]
  refine g_runs (.pointer (some ⟨w.heap.size, 1, none⟩)) grow_end Up.refl rfl (wanted_none rfl) (by intro d hd w; cases hd; exact trivial) (fun w' hw' => ?_) ?_
  · go_simp
  simp only [Act.put, List.setIfInBounds_toArray, List.set_cons_zero, List.set_cons_succ]
  refine g_runs (v1) grow_end Up.refl rfl (wanted_none rfl) (by intro d hd w; cases hd; exact trivial) (fun w' hw' => ?_) ?_
  · obtain ⟨y0, y1, y2⟩ := HF.out w' hw'
    go_simp
  simp only [Act.put, List.setIfInBounds_toArray, List.set_cons_zero, List.set_cons_succ]
  refine g_calls 53 #[v1] (.string t1) grow_end rfl (wanted_none rfl) (by intro d hd w; cases hd; exact trivial) (fun w' hw' => ?_) (fun w' hw' hk => ?_) ?_
  · go_simp
  · refine (HI1.out w' (HTW.out w' hw')).mono ?_
    rintro e w3 ⟨rfl, hb3⟩
    exact ⟨rfl, hb3⟩
  simp only [Act.put, List.setIfInBounds_toArray, List.set_cons_zero, List.set_cons_succ]
  refine g_runs (.pointer (some ⟨w.heap.size, 2, none⟩)) grow_end Up.refl rfl (wanted_none rfl) (by intro d hd w; cases hd; exact trivial) (fun w' hw' => ?_) ?_
  · go_simp
  simp only [Act.put, List.setIfInBounds_toArray, List.set_cons_zero, List.set_cons_succ]
  refine g_runs (v2) grow_end Up.refl rfl (wanted_none rfl) (by intro d hd w; cases hd; exact trivial) (fun w' hw' => ?_) ?_
  · obtain ⟨y0, y1, y2⟩ := HF.out w' hw'
    go_simp
  simp only [Act.put, List.setIfInBounds_toArray, List.set_cons_zero, List.set_cons_succ]
  refine g_calls 53 #[v2] (.string t2) grow_end rfl (wanted_none rfl) (by intro d hd w; cases hd; exact trivial) (fun w' hw' => ?_) (fun w' hw' hk => ?_) ?_
  · go_simp
  · refine (HI2.out w' (HTW.out w' hw')).mono ?_
    rintro e w3 ⟨rfl, hb3⟩
    exact ⟨rfl, hb3⟩
  simp only [Act.put, List.setIfInBounds_toArray, List.set_cons_zero, List.set_cons_succ]
  refine g_makes (threeF t0 t1 t2) rfl (threeF_stays _ _ _) (wanted_none rfl) (fun w' hw' hk => ?_) (fun u87 => ?_)
  · refine ⟨.slice (some ⟨w'.heap.size, 0, none⟩) 3 3, w'.alloc (.cells #[.string t0, .string t1, .string t2] 9), ?_, below_alloc (Below.refl _ _) _, w'.heap.size, rfl, by simp, row3 rfl⟩
    go_simp
  simp only [Act.put, List.setIfInBounds_toArray, List.set_cons_zero, List.set_cons_succ]
  refine g_calls 91 #[.string ⟨#[105, 102]⟩, u87] (.string tx) grow_end rfl (wanted_none rfl) (by intro d hd w; cases hd; exact trivial) (fun w' hw' => ?_) (fun w' hw' hk => ?_) ?_
  · go_simp
  · obtain ⟨b, rfl, hb, hc⟩ : threeF t0 t1 t2 u87 w' := hk 87 (looks_at (by simp [Op.operands, Call.operands]))
    refine (join_any _ b 3 [t0, t1, t2] w' hc hb (by simp) (by simp) (by decide) HS.out).mono ?_
    rintro e w3 ⟨rfl, hb3⟩
    exact ⟨by rw [HX.out], hb3⟩
  simp only [Act.put, List.setIfInBounds_toArray, List.set_cons_zero, List.set_cons_succ]
  refine g_runs (.string tx) grow_end Up.refl rfl (wanted_none rfl) (by intro d hd w; cases hd; exact trivial) (fun w' hw' => ?_) ?_
  · go_simp
  simp only [Act.put, List.setIfInBounds_toArray, List.set_cons_zero, List.set_cons_succ]
  refine g_nil ?_
  intro w9 hw9 hk9
  go_wp2_with fail
  go_ret
  exact ⟨by rw [HE.out]; rfl, HB.out.trans (hw9.mono HB.out.size)⟩

end Go.Proofs.YtkioolbjmcpjpaaGreatDoor
