/- The text of a number, as package write writes it. -/
import Derived.Test.YtkioolbjmcpjpaaGreatDoorWObs0
import Derived.Test.YtkioolbjmcpjpaaGreatDoorGrow
import Derived.Test.YtkioolbjmcpjpaaGreatDoorTermV
import Derived.Shelf.Unicode.PredsPay
namespace Go.Proofs.YtkioolbjmcpjpaaGreatDoor
open Go.RowKit
set_option linter.unusedVariables false

theorem oneMax (v : Value) (xT : TypeId) (w : World) : (Instr.typeAssert (.iface 170 v) xT 170 false).run Tryz.prog w = .ok v w := assert_one Tryz.underlying170 (by intro m h; cases h) v xT w
theorem hidI {p : Prop} (h : p) : Hid p := h
/-- What is known of the calls on the parts. -/
def Writes (o : O) : Prop := ∀ w : World, TabW w → Calls Tryz.prog 92 #[o.val] w fun e w' => e = .returned (.string (textO o)) ∧ Below w.heap.size w w'
theorem tabW_below {w w' : World} (h : TabW w) (hb : Below w.heap.size w w') : TabW w' := by
  cases hg : Tryz.prog.globalNamed "internal/strconv.uint64pow10" with
  | none =>
    exfalso
    unfold TabW Lib.TabIs World.var? at h
    rw [hg] at h
    simp at h
  | some g => exact TabIs_below hg h hb
theorem row1 {w : World} {b t : Nat} {s : ByteArray} (hb : b = w.heap.size) : ∀ (j : Nat) (x : ByteArray), [s][j]? = some x → (w.alloc (.cells #[.string s] t)).cell? ⟨b, j, none⟩ = some (.string x) := by
  intro j x hj
  subst hb
  rw [cell_of_row _ _ _ _ _ _ (heap_alloc_new _ _)]
  match j, hj with
  | 0, hj => simp at hj; subst hj; rfl
theorem row2 {w : World} {b t : Nat} {s u : ByteArray} (hb : b = w.heap.size) : ∀ (j : Nat) (x : ByteArray), [s, u][j]? = some x → (w.alloc (.cells #[.string s, .string u] t)).cell? ⟨b, j, none⟩ = some (.string x) := by
  intro j x hj
  subst hb
  rw [cell_of_row _ _ _ _ _ _ (heap_alloc_new _ _)]
  match j, hj with
  | 0, hj => simp at hj; subst hj; rfl
  | 1, hj => simp at hj; subst hj; rfl
/-- Two texts in a row. -/
def twoF (s u : ByteArray) (v : Value) (w : World) : Prop := ∃ b, v = .slice (some ⟨b, 0, none⟩) 2 2 ∧ b < w.heap.size ∧ ∀ (j : Nat) (x : ByteArray), [s, u][j]? = some x → w.cell? ⟨b, j, none⟩ = some (.string x)
theorem twoF_stays (s u : ByteArray) : ∀ v w w', Up w w' → twoF s u v w → twoF s u v w' := fun v w w' h ⟨b, e, hb, hc⟩ => ⟨b, e, Nat.lt_of_lt_of_le hb (Below.size h), fun j x hj => (Below.cell h (p := ⟨b, j, none⟩) hb).trans (hc j x hj)⟩
set_option maxHeartbeats 1000000 in
set_option maxRecDepth 100000 in
theorem obsText_const (n : Int) (h0 : -9223372036854775808 ≤ n) (h1 : n ≤ 9223372036854775807) : Writes (.const n) := by
  intro w ht
  have a0 := fun v xT w => isConst v xT w
  have HT := hidI ht
  clear ht
  unfold O.val
  go_enter Tryz.func92, Tryz.ntmps92
  go_wp2_with fail
  refine (itoa_any n h0 h1 _ (tabW_below HT.out (below_alloc (Below.refl _ _) _))).mono ?_
  rintro e w1 ⟨rfl, hb1⟩
  have HB := hidI ((below_alloc (Below.refl _ _) (.cells #[.int .i64 n] 155)).trans (hb1.mono (by simp)))
  clear hb1
  go_wp2_with fail
  go_ret
  exact ⟨rfl, HB.out⟩
set_option maxHeartbeats 1000000 in
set_option maxRecDepth 100000 in
theorem obsText_fix (s : ByteArray) (hs : (Lib.join ([s].map (·.data.toList)) [44]).length ≤ 70368744177664) : Writes (.fix s) := by
  intro w ht
  have a0 := fun v xT w => notConst 164 v xT w (by decide)
  have a1 := fun v xT w => isFix v xT w
  have HS := hidI hs
  clear hs ht
  unfold O.val
  go_enter Tryz.func92, Tryz.ntmps92
  go_wp2_with fail
  refine (join_any _ (w.heap.size + 1) 1 [s] _ (row1 (by simp)) (by simp) (by simp) (by simp) (by decide) HS.out).mono ?_
  rintro e w1 ⟨rfl, hb1⟩
  have HB := hidI ((below_alloc (below_alloc (Below.refl w.heap.size w) (.cells #[.string s] 164)) (.cells #[.string s] 9)).trans (hb1.mono (by simp; omega)))
  clear hb1
  go_wp2_with fail
  go_ret
  exact ⟨rfl, HB.out⟩
set_option maxHeartbeats 1000000 in
set_option maxRecDepth 100000 in
theorem obsText_neg (o : O) (q : One' o.val) (ih : Writes o) (hs : (Lib.join ([textO o].map (·.data.toList)) [44]).length ≤ 70368744177664) : Writes (.neg o) := by
  intro w ht
  have a0 := fun v xT w => notConst 168 v xT w (by decide)
  have a1 := fun v xT w => notFix 168 v xT w (by decide)
  have a2 := fun v xT w => notAdd 168 v xT w (by decide)
  have a3 := fun v xT w => isNeg v xT w
  have HS := hidI hs
  have HT := hidI ht
  have HI := hidI ih
  have hs0 := q.store
  have cv0 := q.cells
  have mv0 := q.cells
  unfold Value.cells at mv0
  clear hs ht ih q
  unfold O.val
  go_enter Tryz.func92, Tryz.ntmps92
  go_wp2_with fail
  refine (HI.out _ (tabW_below HT.out (below_alloc (Below.refl _ _) _))).mono ?_
  rintro e w1 ⟨rfl, hb1⟩
  have HB := hidI ((below_alloc (Below.refl w.heap.size w) (.cells #[o.val] 168)).trans (hb1.mono (by simp)))
  clear hb1
  go_wp2_with fail
  refine (join_any _ w1.heap.size 1 [textO o] _ (row1 rfl) (by simp) (by simp) (by simp) (by decide) HS.out).mono ?_
  rintro e w2 ⟨rfl, hb2⟩
  have HB2 := hidI ((below_alloc HB.out (.cells #[.string (textO o)] 9)).trans (hb2.mono (by have := HB.out.size; simp; omega)))
  clear hb2
  go_wp2_with fail
  go_ret
  exact ⟨rfl, HB2.out⟩
set_option maxHeartbeats 1000000 in
set_option maxRecDepth 100000 in
theorem obsText_add (l r : O) (ql : One' l.val) (qr : One' r.val) (ihl : Writes l) (ihr : Writes r) (hs : (Lib.join ([textO l, textO r].map (·.data.toList)) [44]).length ≤ 70368744177664) : Writes (.add l r) := by
  intro w ht
  have a0 := fun v xT w => notConst 166 v xT w (by decide)
  have a1 := fun v xT w => notFix 166 v xT w (by decide)
  have a2 := fun v xT w => isAdd v xT w
  have HT := hidI ht
  have hs0 := ql.store
  have cv0 := ql.cells
  have mv0 := ql.cells
  unfold Value.cells at mv0
  have hs1 := qr.store
  have cv1 := qr.cells
  have mv1 := qr.cells
  unfold Value.cells at mv1
  have HL : Hid (∀ w, TabW w → Calls Tryz.prog 92 #[l.val] w fun e w' => e = .returned (.string (textO l)) ∧ Below w.heap.size w w') := ihl
  have HR : Hid (∀ w, TabW w → Calls Tryz.prog 92 #[r.val] w fun e w' => e = .returned (.string (textO r)) ∧ Below w.heap.size w w') := ihr
  have HE : Hid (textO (.add l r) = joinT ⟨#[97, 100, 100]⟩ [textO l, textO r]) := rfl
  obtain ⟨tx, HX⟩ : ∃ tx, Hid (joinT ⟨#[97, 100, 100]⟩ [textO l, textO r] = tx) := ⟨_, rfl⟩
  rw [HX.out] at HE
  have HS := hidI hs
  clear hs ht ihl ihr ql qr
  unfold O.val
  go_enter Tryz.func92, Tryz.ntmps92
  go_wp2_with fail
  obtain ⟨W, hW⟩ : ∃ W, W = w.alloc (.cells #[l.val, r.val] 166) := ⟨_, rfl⟩
  have HB : Hid (Below w.heap.size w W) := by rw [hW]; exact below_alloc (Below.refl _ _) _
  have HBK : Hid (W.heap[w.heap.size]? = some (.cells #[l.val, r.val] 166 (0, 0))) := by rw [hW]; exact heap_alloc_new _ _
  rw [← hW]
  clear hW
  have HF : Hid (∀ w', Below W.heap.size W w' → w'.cell? ⟨w.heap.size, 0, none⟩ = some l.val ∧ w'.cell? ⟨w.heap.size, 1, none⟩ = some r.val) := fun w' hw' => by
    have hbk := (hw'.block _ (Array.getElem?_eq_some_iff.1 HBK.out).1).trans HBK.out
    exact ⟨(cell_of_row _ _ _ _ _ _ hbk).trans rfl, (cell_of_row _ _ _ _ _ _ hbk).trans rfl⟩
  have HTW : Hid (∀ w', Below W.heap.size W w' → TabW w') := fun w' hw' => tabW_below HT.out (HB.out.trans (hw'.mono HB.out.size))
  clear HBK
  generalize l.val = vl at *
  generalize r.val = vr at *
  generalize textO l = tl at *
  generalize textO r = tr at *
  clear hs0 cv0 mv0 hs1 cv1 mv1 a0 a1 a2
  refine wp_region_grow (fun w' => Below W.heap.size W w') Up (modes [one (.pointer (some ⟨w.heap.size, 0, none⟩)), one (vl), one (.string tl), one (.pointer (some ⟨w.heap.size, 1, none⟩)), one (vr), one (.string tr), loose (twoF tl tr), one (.string tx), one (.string tx)]) (by kernel_rfl) (by kernel_rfl) (up_class _) (below_drew (Below.refl _ _)) ?_
  generalize hops : (#[_, _, _, _, _, _, _, _, _] : Array Oper) = ops
  clear hops
  refine g_runs (.pointer (some ⟨w.heap.size, 0, none⟩)) grow_end Up.refl rfl (wanted_none rfl) (by intro d hd w; cases hd; exact trivial) (fun w' hw' => ?_) ?_
  · go_simp
  simp only [Act.put, List.setIfInBounds_toArray, List.set_cons_zero, List.set_cons_succ]
  refine g_runs (vl) grow_end Up.refl rfl (wanted_none rfl) (by intro d hd w; cases hd; exact trivial) (fun w' hw' => ?_) ?_
  · obtain ⟨y0, y1⟩ := HF.out w' hw'
    go_simp
  simp only [Act.put, List.setIfInBounds_toArray, List.set_cons_zero, List.set_cons_succ]
  refine g_calls 92 #[vl] (.string tl) grow_end rfl (wanted_none rfl) (by intro d hd w; cases hd; exact trivial) (fun w' hw' => ?_) (fun w' hw' hk => ?_) ?_
  · go_simp
  · refine (HL.out w' (HTW.out w' hw')).mono ?_
    rintro e w3 ⟨rfl, hb3⟩
    exact ⟨rfl, hb3⟩
  simp only [Act.put, List.setIfInBounds_toArray, List.set_cons_zero, List.set_cons_succ]
  refine g_runs (.pointer (some ⟨w.heap.size, 1, none⟩)) grow_end Up.refl rfl (wanted_none rfl) (by intro d hd w; cases hd; exact trivial) (fun w' hw' => ?_) ?_
  · go_simp
  simp only [Act.put, List.setIfInBounds_toArray, List.set_cons_zero, List.set_cons_succ]
  refine g_runs (vr) grow_end Up.refl rfl (wanted_none rfl) (by intro d hd w; cases hd; exact trivial) (fun w' hw' => ?_) ?_
  · obtain ⟨y0, y1⟩ := HF.out w' hw'
    go_simp
  simp only [Act.put, List.setIfInBounds_toArray, List.set_cons_zero, List.set_cons_succ]
  refine g_calls 92 #[vr] (.string tr) grow_end rfl (wanted_none rfl) (by intro d hd w; cases hd; exact trivial) (fun w' hw' => ?_) (fun w' hw' hk => ?_) ?_
  · go_simp
  · refine (HR.out w' (HTW.out w' hw')).mono ?_
    rintro e w3 ⟨rfl, hb3⟩
    exact ⟨rfl, hb3⟩
  simp only [Act.put, List.setIfInBounds_toArray, List.set_cons_zero, List.set_cons_succ]
  refine g_makes (twoF tl tr) rfl (twoF_stays _ _) (wanted_none rfl) (fun w' hw' hk => ?_) (fun u32 => ?_)
  · refine ⟨.slice (some ⟨w'.heap.size, 0, none⟩) 2 2, w'.alloc (.cells #[.string tl, .string tr] 9), ?_, below_alloc (Below.refl _ _) _, w'.heap.size, rfl, by simp, row2 rfl⟩
    go_simp
  simp only [Act.put, List.setIfInBounds_toArray, List.set_cons_zero, List.set_cons_succ]
  refine g_calls 91 #[.string ⟨#[97, 100, 100]⟩, u32] (.string tx) grow_end rfl (wanted_none rfl) (by intro d hd w; cases hd; exact trivial) (fun w' hw' => ?_) (fun w' hw' hk => ?_) ?_
  · go_simp
  · obtain ⟨b, rfl, hb, hc⟩ : twoF tl tr u32 w' := hk 32 (looks_at (by simp [Op.operands, Call.operands]))
    refine (join_any _ b 2 [tl, tr] w' hc hb (by simp) (by simp) (by decide) HS.out).mono ?_
    rintro e w3 ⟨rfl, hb3⟩
    exact ⟨by rw [HX.out], hb3⟩
  simp only [Act.put, List.setIfInBounds_toArray, List.set_cons_zero, List.set_cons_succ]
  refine g_runs (.string tx) grow_end Up.refl rfl (wanted_none rfl) (by intro d hd w; cases hd; exact trivial) (fun w' hw' => ?_) ?_
  · go_simp
  simp only [Act.put, List.setIfInBounds_toArray, List.set_cons_zero, List.set_cons_succ]
  refine g_nil ?_
  intro w9 hw9 hk9
  go_wp2_with fail
  go_ret
  exact ⟨by rw [HE.out]; rfl, HB.out.trans (hw9.mono HB.out.size)⟩
set_option maxHeartbeats 1000000 in
set_option maxRecDepth 100000 in
theorem obsText_mul (l r : O) (ql : One' l.val) (qr : One' r.val) (ihl : Writes l) (ihr : Writes r) (hs : (Lib.join ([textO l, textO r].map (·.data.toList)) [44]).length ≤ 70368744177664) : Writes (.mul l r) := by
  intro w ht
  have a0 := fun v xT w => notConst 169 v xT w (by decide)
  have a1 := fun v xT w => notFix 169 v xT w (by decide)
  have a2 := fun v xT w => notAdd 169 v xT w (by decide)
  have a3 := fun v xT w => notNeg 169 v xT w (by decide)
  have a4 := fun v xT w => isMul v xT w
  have HT := hidI ht
  have hs0 := ql.store
  have cv0 := ql.cells
  have mv0 := ql.cells
  unfold Value.cells at mv0
  have hs1 := qr.store
  have cv1 := qr.cells
  have mv1 := qr.cells
  unfold Value.cells at mv1
  have HL : Hid (∀ w, TabW w → Calls Tryz.prog 92 #[l.val] w fun e w' => e = .returned (.string (textO l)) ∧ Below w.heap.size w w') := ihl
  have HR : Hid (∀ w, TabW w → Calls Tryz.prog 92 #[r.val] w fun e w' => e = .returned (.string (textO r)) ∧ Below w.heap.size w w') := ihr
  have HE : Hid (textO (.mul l r) = joinT ⟨#[109, 117, 108]⟩ [textO l, textO r]) := rfl
  obtain ⟨tx, HX⟩ : ∃ tx, Hid (joinT ⟨#[109, 117, 108]⟩ [textO l, textO r] = tx) := ⟨_, rfl⟩
  rw [HX.out] at HE
  have HS := hidI hs
  clear hs ht ihl ihr ql qr
  unfold O.val
  go_enter Tryz.func92, Tryz.ntmps92
  go_wp2_with fail
  obtain ⟨W, hW⟩ : ∃ W, W = w.alloc (.cells #[l.val, r.val] 169) := ⟨_, rfl⟩
  have HB : Hid (Below w.heap.size w W) := by rw [hW]; exact below_alloc (Below.refl _ _) _
  have HBK : Hid (W.heap[w.heap.size]? = some (.cells #[l.val, r.val] 169 (0, 0))) := by rw [hW]; exact heap_alloc_new _ _
  rw [← hW]
  clear hW
  have HF : Hid (∀ w', Below W.heap.size W w' → w'.cell? ⟨w.heap.size, 0, none⟩ = some l.val ∧ w'.cell? ⟨w.heap.size, 1, none⟩ = some r.val) := fun w' hw' => by
    have hbk := (hw'.block _ (Array.getElem?_eq_some_iff.1 HBK.out).1).trans HBK.out
    exact ⟨(cell_of_row _ _ _ _ _ _ hbk).trans rfl, (cell_of_row _ _ _ _ _ _ hbk).trans rfl⟩
  have HTW : Hid (∀ w', Below W.heap.size W w' → TabW w') := fun w' hw' => tabW_below HT.out (HB.out.trans (hw'.mono HB.out.size))
  clear HBK
  generalize l.val = vl at *
  generalize r.val = vr at *
  generalize textO l = tl at *
  generalize textO r = tr at *
  clear hs0 cv0 mv0 hs1 cv1 mv1 a0 a1 a2 a3 a4
  refine wp_region_grow (fun w' => Below W.heap.size W w') Up (modes [one (.pointer (some ⟨w.heap.size, 0, none⟩)), one (vl), one (.string tl), one (.pointer (some ⟨w.heap.size, 1, none⟩)), one (vr), one (.string tr), loose (twoF tl tr), one (.string tx), one (.string tx)]) (by kernel_rfl) (by kernel_rfl) (up_class _) (below_drew (Below.refl _ _)) ?_
  generalize hops : (#[_, _, _, _, _, _, _, _, _] : Array Oper) = ops
  clear hops
  refine g_runs (.pointer (some ⟨w.heap.size, 0, none⟩)) grow_end Up.refl rfl (wanted_none rfl) (by intro d hd w; cases hd; exact trivial) (fun w' hw' => ?_) ?_
  · go_simp
  simp only [Act.put, List.setIfInBounds_toArray, List.set_cons_zero, List.set_cons_succ]
  refine g_runs (vl) grow_end Up.refl rfl (wanted_none rfl) (by intro d hd w; cases hd; exact trivial) (fun w' hw' => ?_) ?_
  · obtain ⟨y0, y1⟩ := HF.out w' hw'
    go_simp
  simp only [Act.put, List.setIfInBounds_toArray, List.set_cons_zero, List.set_cons_succ]
  refine g_calls 92 #[vl] (.string tl) grow_end rfl (wanted_none rfl) (by intro d hd w; cases hd; exact trivial) (fun w' hw' => ?_) (fun w' hw' hk => ?_) ?_
  · go_simp
  · refine (HL.out w' (HTW.out w' hw')).mono ?_
    rintro e w3 ⟨rfl, hb3⟩
    exact ⟨rfl, hb3⟩
  simp only [Act.put, List.setIfInBounds_toArray, List.set_cons_zero, List.set_cons_succ]
  refine g_runs (.pointer (some ⟨w.heap.size, 1, none⟩)) grow_end Up.refl rfl (wanted_none rfl) (by intro d hd w; cases hd; exact trivial) (fun w' hw' => ?_) ?_
  · go_simp
  simp only [Act.put, List.setIfInBounds_toArray, List.set_cons_zero, List.set_cons_succ]
  refine g_runs (vr) grow_end Up.refl rfl (wanted_none rfl) (by intro d hd w; cases hd; exact trivial) (fun w' hw' => ?_) ?_
  · obtain ⟨y0, y1⟩ := HF.out w' hw'
    go_simp
  simp only [Act.put, List.setIfInBounds_toArray, List.set_cons_zero, List.set_cons_succ]
  refine g_calls 92 #[vr] (.string tr) grow_end rfl (wanted_none rfl) (by intro d hd w; cases hd; exact trivial) (fun w' hw' => ?_) (fun w' hw' hk => ?_) ?_
  · go_simp
  · refine (HR.out w' (HTW.out w' hw')).mono ?_
    rintro e w3 ⟨rfl, hb3⟩
    exact ⟨rfl, hb3⟩
  simp only [Act.put, List.setIfInBounds_toArray, List.set_cons_zero, List.set_cons_succ]
  refine g_makes (twoF tl tr) rfl (twoF_stays _ _) (wanted_none rfl) (fun w' hw' hk => ?_) (fun u51 => ?_)
  · refine ⟨.slice (some ⟨w'.heap.size, 0, none⟩) 2 2, w'.alloc (.cells #[.string tl, .string tr] 9), ?_, below_alloc (Below.refl _ _) _, w'.heap.size, rfl, by simp, row2 rfl⟩
    go_simp
  simp only [Act.put, List.setIfInBounds_toArray, List.set_cons_zero, List.set_cons_succ]
  refine g_calls 91 #[.string ⟨#[109, 117, 108]⟩, u51] (.string tx) grow_end rfl (wanted_none rfl) (by intro d hd w; cases hd; exact trivial) (fun w' hw' => ?_) (fun w' hw' hk => ?_) ?_
  · go_simp
  · obtain ⟨b, rfl, hb, hc⟩ : twoF tl tr u51 w' := hk 51 (looks_at (by simp [Op.operands, Call.operands]))
    refine (join_any _ b 2 [tl, tr] w' hc hb (by simp) (by simp) (by decide) HS.out).mono ?_
    rintro e w3 ⟨rfl, hb3⟩
    exact ⟨by rw [HX.out], hb3⟩
  simp only [Act.put, List.setIfInBounds_toArray, List.set_cons_zero, List.set_cons_succ]
  refine g_runs (.string tx) grow_end Up.refl rfl (wanted_none rfl) (by intro d hd w; cases hd; exact trivial) (fun w' hw' => ?_) ?_
  · go_simp
  simp only [Act.put, List.setIfInBounds_toArray, List.set_cons_zero, List.set_cons_succ]
  refine g_nil ?_
  intro w9 hw9 hk9
  go_wp2_with fail
  go_ret
  exact ⟨by rw [HE.out]; rfl, HB.out.trans (hw9.mono HB.out.size)⟩
set_option maxHeartbeats 1000000 in
set_option maxRecDepth 100000 in
theorem obsText_max (l r : O) (ql : One' l.val) (qr : One' r.val) (ihl : Writes l) (ihr : Writes r) (hs : (Lib.join ([textO l, textO r].map (·.data.toList)) [44]).length ≤ 70368744177664) : Writes (.max l r) := by
  intro w ht
  have a0 := fun v xT w => notConst 170 v xT w (by decide)
  have a1 := fun v xT w => notFix 170 v xT w (by decide)
  have a2 := fun v xT w => notAdd 170 v xT w (by decide)
  have a3 := fun v xT w => notNeg 170 v xT w (by decide)
  have a4 := fun v xT w => notMul 170 v xT w (by decide)
  have a5 := fun v xT w => oneMax v xT w
  have HT := hidI ht
  have hs0 := ql.store
  have cv0 := ql.cells
  have mv0 := ql.cells
  unfold Value.cells at mv0
  have hs1 := qr.store
  have cv1 := qr.cells
  have mv1 := qr.cells
  unfold Value.cells at mv1
  have HL : Hid (∀ w, TabW w → Calls Tryz.prog 92 #[l.val] w fun e w' => e = .returned (.string (textO l)) ∧ Below w.heap.size w w') := ihl
  have HR : Hid (∀ w, TabW w → Calls Tryz.prog 92 #[r.val] w fun e w' => e = .returned (.string (textO r)) ∧ Below w.heap.size w w') := ihr
  have HE : Hid (textO (.max l r) = joinT ⟨#[109, 97, 120]⟩ [textO l, textO r]) := rfl
  obtain ⟨tx, HX⟩ : ∃ tx, Hid (joinT ⟨#[109, 97, 120]⟩ [textO l, textO r] = tx) := ⟨_, rfl⟩
  rw [HX.out] at HE
  have HS := hidI hs
  clear hs ht ihl ihr ql qr
  unfold O.val
  go_enter Tryz.func92, Tryz.ntmps92
  go_wp2_with fail
  obtain ⟨W, hW⟩ : ∃ W, W = w.alloc (.cells #[l.val, r.val] 170) := ⟨_, rfl⟩
  have HB : Hid (Below w.heap.size w W) := by rw [hW]; exact below_alloc (Below.refl _ _) _
  have HBK : Hid (W.heap[w.heap.size]? = some (.cells #[l.val, r.val] 170 (0, 0))) := by rw [hW]; exact heap_alloc_new _ _
  rw [← hW]
  clear hW
  have HF : Hid (∀ w', Below W.heap.size W w' → w'.cell? ⟨w.heap.size, 0, none⟩ = some l.val ∧ w'.cell? ⟨w.heap.size, 1, none⟩ = some r.val) := fun w' hw' => by
    have hbk := (hw'.block _ (Array.getElem?_eq_some_iff.1 HBK.out).1).trans HBK.out
    exact ⟨(cell_of_row _ _ _ _ _ _ hbk).trans rfl, (cell_of_row _ _ _ _ _ _ hbk).trans rfl⟩
  have HTW : Hid (∀ w', Below W.heap.size W w' → TabW w') := fun w' hw' => tabW_below HT.out (HB.out.trans (hw'.mono HB.out.size))
  clear HBK
  generalize l.val = vl at *
  generalize r.val = vr at *
  generalize textO l = tl at *
  generalize textO r = tr at *
  clear hs0 cv0 mv0 hs1 cv1 mv1 a0 a1 a2 a3 a4 a5
  refine wp_region_grow (fun w' => Below W.heap.size W w') Up (modes [one (.pointer (some ⟨w.heap.size, 0, none⟩)), one (vl), one (.string tl), one (.pointer (some ⟨w.heap.size, 1, none⟩)), one (vr), one (.string tr), loose (twoF tl tr), one (.string tx), one (.string tx)]) (by kernel_rfl) (by kernel_rfl) (up_class _) (below_drew (Below.refl _ _)) ?_
  generalize hops : (#[_, _, _, _, _, _, _, _, _] : Array Oper) = ops
  clear hops
  refine g_runs (.pointer (some ⟨w.heap.size, 0, none⟩)) grow_end Up.refl rfl (wanted_none rfl) (by intro d hd w; cases hd; exact trivial) (fun w' hw' => ?_) ?_
  · go_simp
  simp only [Act.put, List.setIfInBounds_toArray, List.set_cons_zero, List.set_cons_succ]
  refine g_runs (vl) grow_end Up.refl rfl (wanted_none rfl) (by intro d hd w; cases hd; exact trivial) (fun w' hw' => ?_) ?_
  · obtain ⟨y0, y1⟩ := HF.out w' hw'
    go_simp
  simp only [Act.put, List.setIfInBounds_toArray, List.set_cons_zero, List.set_cons_succ]
  refine g_calls 92 #[vl] (.string tl) grow_end rfl (wanted_none rfl) (by intro d hd w; cases hd; exact trivial) (fun w' hw' => ?_) (fun w' hw' hk => ?_) ?_
  · go_simp
  · refine (HL.out w' (HTW.out w' hw')).mono ?_
    rintro e w3 ⟨rfl, hb3⟩
    exact ⟨rfl, hb3⟩
  simp only [Act.put, List.setIfInBounds_toArray, List.set_cons_zero, List.set_cons_succ]
  refine g_runs (.pointer (some ⟨w.heap.size, 1, none⟩)) grow_end Up.refl rfl (wanted_none rfl) (by intro d hd w; cases hd; exact trivial) (fun w' hw' => ?_) ?_
  · go_simp
  simp only [Act.put, List.setIfInBounds_toArray, List.set_cons_zero, List.set_cons_succ]
  refine g_runs (vr) grow_end Up.refl rfl (wanted_none rfl) (by intro d hd w; cases hd; exact trivial) (fun w' hw' => ?_) ?_
  · obtain ⟨y0, y1⟩ := HF.out w' hw'
    go_simp
  simp only [Act.put, List.setIfInBounds_toArray, List.set_cons_zero, List.set_cons_succ]
  refine g_calls 92 #[vr] (.string tr) grow_end rfl (wanted_none rfl) (by intro d hd w; cases hd; exact trivial) (fun w' hw' => ?_) (fun w' hw' hk => ?_) ?_
  · go_simp
  · refine (HR.out w' (HTW.out w' hw')).mono ?_
    rintro e w3 ⟨rfl, hb3⟩
    exact ⟨rfl, hb3⟩
  simp only [Act.put, List.setIfInBounds_toArray, List.set_cons_zero, List.set_cons_succ]
  refine g_makes (twoF tl tr) rfl (twoF_stays _ _) (wanted_none rfl) (fun w' hw' hk => ?_) (fun u61 => ?_)
  · refine ⟨.slice (some ⟨w'.heap.size, 0, none⟩) 2 2, w'.alloc (.cells #[.string tl, .string tr] 9), ?_, below_alloc (Below.refl _ _) _, w'.heap.size, rfl, by simp, row2 rfl⟩
    go_simp
  simp only [Act.put, List.setIfInBounds_toArray, List.set_cons_zero, List.set_cons_succ]
  refine g_calls 91 #[.string ⟨#[109, 97, 120]⟩, u61] (.string tx) grow_end rfl (wanted_none rfl) (by intro d hd w; cases hd; exact trivial) (fun w' hw' => ?_) (fun w' hw' hk => ?_) ?_
  · go_simp
  · obtain ⟨b, rfl, hb, hc⟩ : twoF tl tr u61 w' := hk 61 (looks_at (by simp [Op.operands, Call.operands]))
    refine (join_any _ b 2 [tl, tr] w' hc hb (by simp) (by simp) (by decide) HS.out).mono ?_
    rintro e w3 ⟨rfl, hb3⟩
    exact ⟨by rw [HX.out], hb3⟩
  simp only [Act.put, List.setIfInBounds_toArray, List.set_cons_zero, List.set_cons_succ]
  refine g_runs (.string tx) grow_end Up.refl rfl (wanted_none rfl) (by intro d hd w; cases hd; exact trivial) (fun w' hw' => ?_) ?_
  · go_simp
  simp only [Act.put, List.setIfInBounds_toArray, List.set_cons_zero, List.set_cons_succ]
  refine g_nil ?_
  intro w9 hw9 hk9
  go_wp2_with fail
  go_ret
  exact ⟨by rw [HE.out]; rfl, HB.out.trans (hw9.mono HB.out.size)⟩

end Go.Proofs.YtkioolbjmcpjpaaGreatDoor
