/- The text of a number, as package write writes it. -/
import Derived.Test.YtfmjjfpajohihaaGreatDoorRo1
import Derived.Test.YtfmjjfpajohihaaGreatDoorGrow
import Derived.Test.YtfmjjfpajohihaaGreatDoorTermV
import Derived.Shelf.Unicode.PredsPay
import Derived.Test.YtfmjjfpajohihaaGreatDoorSize
import Derived.Test.YtfmjjfpajohihaaGreatDoorTermSize
import Derived.Lib.ItoaLen
import Derived.Test.YtfmjjfpajohihaaGreatDoorTermWalk
import Derived.Test.YtfmjjfpajohihaaGreatDoorMakerC0
import Derived.Laws.AppendOwnNone
import Derived.Test.YtfmjjfpajohihaaGreatDoorRefT
import Derived.Test.YtfmjjfpajohihaaGreatDoorFormT
namespace Go.Proofs.YtfmjjfpajohihaaGreatDoor
open Go.RowKit
set_option linter.unusedVariables false

theorem oneMax (v : Value) (xT : TypeId) (w : World) : (Instr.typeAssert (.iface 100 v) xT 100 false).run Tryz.prog w = .ok v w := assert_one Tryz.underlying100 (by intro m h; cases h) v xT w
theorem hidI {p : Prop} (h : p) : Hid p := h
/-- What is known of the calls on the parts. -/
def Writes (o : O) : Prop := ∀ w : World, TabW w → Calls Tryz.prog 29 #[o.val] w fun e w' => e = .returned (.string (textO o)) ∧ Below w.heap.size w w'
theorem tabW_below {w w' : World} (h : TabW w) (hb : Below w.heap.size w w') : TabW w' := by
  cases hg : Tryz.prog.globalNamed "internal/strconv.uint64pow10" with
  | none =>
    exfalso
    unfold TabW Lib.TabIs World.var? at h
    rw [hg] at h
    simp at h
  | some g => exact TabIs_below hg h hb
theorem row1 {w : World} {b t : Nat} {s : ByteArray} (hb : b = w.heap.size) : ∀ (j : Nat) (x : ByteArray), [s][j]? = some x → (w.alloc (.cells #[.string s] t)).cell? ⟨b, j, none⟩ = some (.string x) := by
  intro j x hj
  subst hb
  rw [cell_of_row _ _ _ _ _ _ (heap_alloc_new _ _)]
  match j, hj with
  | 0, hj => simp at hj; subst hj; rfl
theorem row2 {w : World} {b t : Nat} {s u : ByteArray} (hb : b = w.heap.size) : ∀ (j : Nat) (x : ByteArray), [s, u][j]? = some x → (w.alloc (.cells #[.string s, .string u] t)).cell? ⟨b, j, none⟩ = some (.string x) := by
  intro j x hj
  subst hb
  rw [cell_of_row _ _ _ _ _ _ (heap_alloc_new _ _)]
  match j, hj with
  | 0, hj => simp at hj; subst hj; rfl
  | 1, hj => simp at hj; subst hj; rfl
/-- Two texts in a row. -/
def twoF (s u : ByteArray) (v : Value) (w : World) : Prop := ∃ b, v = .slice (some ⟨b, 0, none⟩) 2 2 ∧ b < w.heap.size ∧ ∀ (j : Nat) (x : ByteArray), [s, u][j]? = some x → w.cell? ⟨b, j, none⟩ = some (.string x)
theorem twoF_stays (s u : ByteArray) : ∀ v w w', Up w w' → twoF s u v w → twoF s u v w' := fun v w w' h ⟨b, e, hb, hc⟩ => ⟨b, e, Nat.lt_of_lt_of_le hb (Below.size h), fun j x hj => (Below.cell h (p := ⟨b, j, none⟩) hb).trans (hc j x hj)⟩
set_option maxHeartbeats 1000000 in
set_option maxRecDepth 100000 in
theorem obsText_const (n : Int) (h0 : -9223372036854775808 ≤ n) (h1 : n ≤ 9223372036854775807) : Writes (.const n) := by
  intro w ht
  have a0 := fun v xT w => isConst v xT w
  have HT := hidI ht
  clear ht
  unfold O.val
  go_enter Tryz.func29, Tryz.ntmps29
  go_wp2_with fail
  refine (itoa_any n h0 h1 _ (tabW_below HT.out (below_alloc (Below.refl _ _) _))).mono ?_
  rintro e w1 ⟨rfl, hb1⟩
  have HB := hidI ((below_alloc (Below.refl _ _) (.cells #[.int .i64 n] 92)).trans (hb1.mono (by simp)))
  clear hb1
  go_wp2_with fail
  go_ret
  exact ⟨rfl, HB.out⟩
set_option maxHeartbeats 1000000 in
set_option maxRecDepth 100000 in
theorem obsText_fix (s : ByteArray) (hs : (Lib.join ([s].map (·.data.toList)) [44]).length ≤ 70368744177664) : Writes (.fix s) := by
  intro w ht
  have a0 := fun v xT w => notConst 94 v xT w (by decide)
  have a1 := fun v xT w => isFix v xT w
  have HS := hidI hs
  clear hs ht
  unfold O.val
  go_enter Tryz.func29, Tryz.ntmps29
  go_wp2_with fail
  refine (join_any _ (w.heap.size + 1) 1 [s] _ (row1 (by simp)) (by simp) (by simp) (by simp) (by decide) HS.out).mono ?_
  rintro e w1 ⟨rfl, hb1⟩
  have HB := hidI ((below_alloc (below_alloc (Below.refl w.heap.size w) (.cells #[.string s] 94)) (.cells #[.string s] 9)).trans (hb1.mono (by simp; omega)))
  clear hb1
  go_wp2_with fail
  go_ret
  exact ⟨rfl, HB.out⟩
set_option maxHeartbeats 1000000 in
set_option maxRecDepth 100000 in
theorem obsText_neg (o : O) (q : One' o.val) (ih : Writes o) (hs : (Lib.join ([textO o].map (·.data.toList)) [44]).length ≤ 70368744177664) : Writes (.neg o) := by
  intro w ht
  have a0 := fun v xT w => notConst 98 v xT w (by decide)
  have a1 := fun v xT w => notFix 98 v xT w (by decide)
  have a2 := fun v xT w => notAdd 98 v xT w (by decide)
  have a3 := fun v xT w => isNeg v xT w
  have HS := hidI hs
  have HT := hidI ht
  have HI := hidI ih
  have hs0 := q.store
  have cv0 := q.cells
  have mv0 := q.cells
  unfold Value.cells at mv0
  clear hs ht ih q
  unfold O.val
  go_enter Tryz.func29, Tryz.ntmps29
  go_wp2_with fail
  refine (HI.out _ (tabW_below HT.out (below_alloc (Below.refl _ _) _))).mono ?_
  rintro e w1 ⟨rfl, hb1⟩
  have HB := hidI ((below_alloc (Below.refl w.heap.size w) (.cells #[o.val] 98)).trans (hb1.mono (by simp)))
  clear hb1
  go_wp2_with fail
  refine (join_any _ w1.heap.size 1 [textO o] _ (row1 rfl) (by simp) (by simp) (by simp) (by decide) HS.out).mono ?_
  rintro e w2 ⟨rfl, hb2⟩
  have HB2 := hidI ((below_alloc HB.out (.cells #[.string (textO o)] 9)).trans (hb2.mono (by have := HB.out.size; simp; omega)))
  clear hb2
  go_wp2_with fail
  go_ret
  exact ⟨rfl, HB2.out⟩
set_option maxHeartbeats 1000000 in
set_option maxRecDepth 100000 in
theorem obsText_add (l r : O) (ql : One' l.val) (qr : One' r.val) (ihl : Writes l) (ihr : Writes r) (hs : (Lib.join ([textO l, textO r].map (·.data.toList)) [44]).length ≤ 70368744177664) : Writes (.add l r) := by
  intro w ht
  have a0 := fun v xT w => notConst 96 v xT w (by decide)
  have a1 := fun v xT w => notFix 96 v xT w (by decide)
  have a2 := fun v xT w => isAdd v xT w
  have HT := hidI ht
  have hs0 := ql.store
  have cv0 := ql.cells
  have mv0 := ql.cells
  unfold Value.cells at mv0
  have hs1 := qr.store
  have cv1 := qr.cells
  have mv1 := qr.cells
  unfold Value.cells at mv1
  have HL : Hid (∀ w, TabW w → Calls Tryz.prog 29 #[l.val] w fun e w' => e = .returned (.string (textO l)) ∧ Below w.heap.size w w') := ihl
  have HR : Hid (∀ w, TabW w → Calls Tryz.prog 29 #[r.val] w fun e w' => e = .returned (.string (textO r)) ∧ Below w.heap.size w w') := ihr
  have HE : Hid (textO (.add l r) = joinT ⟨#[97, 100, 100]⟩ [textO l, textO r]) := rfl
  obtain ⟨tx, HX⟩ : ∃ tx, Hid (joinT ⟨#[97, 100, 100]⟩ [textO l, textO r] = tx) := ⟨_, rfl⟩
  rw [HX.out] at HE
  have HS := hidI hs
  clear hs ht ihl ihr ql qr
  unfold O.val
  go_enter Tryz.func29, Tryz.ntmps29
  go_wp2_with fail
  obtain ⟨W, hW⟩ : ∃ W, W = w.alloc (.cells #[l.val, r.val] 96) := ⟨_, rfl⟩
  have HB : Hid (Below w.heap.size w W) := by rw [hW]; exact below_alloc (Below.refl _ _) _
  have HBK : Hid (W.heap[w.heap.size]? = some (.cells #[l.val, r.val] 96 (0, 0))) := by rw [hW]; exact heap_alloc_new _ _
  rw [← hW]
  clear hW
  have HF : Hid (∀ w', Below W.heap.size W w' → w'.cell? ⟨w.heap.size, 0, none⟩ = some l.val ∧ w'.cell? ⟨w.heap.size, 1, none⟩ = some r.val) := fun w' hw' => by
    have hbk := (hw'.block _ (Array.getElem?_eq_some_iff.1 HBK.out).1).trans HBK.out
    exact ⟨(cell_of_row _ _ _ _ _ _ hbk).trans rfl, (cell_of_row _ _ _ _ _ _ hbk).trans rfl⟩
  have HTW : Hid (∀ w', Below W.heap.size W w' → TabW w') := fun w' hw' => tabW_below HT.out (HB.out.trans (hw'.mono HB.out.size))
  clear HBK
  generalize l.val = vl at *
  generalize r.val = vr at *
  generalize textO l = tl at *
  generalize textO r = tr at *
  clear hs0 cv0 mv0 hs1 cv1 mv1 a0 a1 a2
  refine wp_region_grow (fun w' => Below W.heap.size W w') Up (modes [one (.pointer (some ⟨w.heap.size, 0, none⟩)), one (vl), one (.string tl), one (.pointer (some ⟨w.heap.size, 1, none⟩)), one (vr), one (.string tr), loose (twoF tl tr), one (.string tx), one (.string tx)]) (by kernel_rfl) (by kernel_rfl) (up_class _) (below_drew (Below.refl _ _)) ?_
  generalize hops : (#[_, _, _, _, _, _, _, _, _] : Array Oper) = ops
  clear hops
  refine g_runs (.pointer (some ⟨w.heap.size, 0, none⟩)) grow_end Up.refl rfl (wanted_none rfl) (by intro d hd w; cases hd; exact trivial) (fun w' hw' => ?_) ?_
  · go_simp
  simp only [Act.put, List.setIfInBounds_toArray, List.set_cons_zero, List.set_cons_succ]
  refine g_runs (vl) grow_end Up.refl rfl (wanted_none rfl) (by intro d hd w; cases hd; exact trivial) (fun w' hw' => ?_) ?_
  · obtain ⟨y0, y1⟩ := HF.out w' hw'
    go_simp
  simp only [Act.put, List.setIfInBounds_toArray, List.set_cons_zero, List.set_cons_succ]
  refine g_calls 29 #[vl] (.string tl) grow_end rfl (wanted_none rfl) (by intro d hd w; cases hd; exact trivial) (fun w' hw' => ?_) (fun w' hw' hk => ?_) ?_
  · go_simp
  · refine (HL.out w' (HTW.out w' hw')).mono ?_
    rintro e w3 ⟨rfl, hb3⟩
    exact ⟨rfl, hb3⟩
  simp only [Act.put, List.setIfInBounds_toArray, List.set_cons_zero, List.set_cons_succ]
  refine g_runs (.pointer (some ⟨w.heap.size, 1, none⟩)) grow_end Up.refl rfl (wanted_none rfl) (by intro d hd w; cases hd; exact trivial) (fun w' hw' => ?_) ?_
  · go_simp
  simp only [Act.put, List.setIfInBounds_toArray, List.set_cons_zero, List.set_cons_succ]
  refine g_runs (vr) grow_end Up.refl rfl (wanted_none rfl) (by intro d hd w; cases hd; exact trivial) (fun w' hw' => ?_) ?_
  · obtain ⟨y0, y1⟩ := HF.out w' hw'
    go_simp
  simp only [Act.put, List.setIfInBounds_toArray, List.set_cons_zero, List.set_cons_succ]
  refine g_calls 29 #[vr] (.string tr) grow_end rfl (wanted_none rfl) (by intro d hd w; cases hd; exact trivial) (fun w' hw' => ?_) (fun w' hw' hk => ?_) ?_
  · go_simp
  · refine (HR.out w' (HTW.out w' hw')).mono ?_
    rintro e w3 ⟨rfl, hb3⟩
    exact ⟨rfl, hb3⟩
  simp only [Act.put, List.setIfInBounds_toArray, List.set_cons_zero, List.set_cons_succ]
  refine g_makes (twoF tl tr) rfl (twoF_stays _ _) (wanted_none rfl) (fun w' hw' hk => ?_) (fun u32 => ?_)
  · refine ⟨.slice (some ⟨w'.heap.size, 0, none⟩) 2 2, w'.alloc (.cells #[.string tl, .string tr] 9), ?_, below_alloc (Below.refl _ _) _, w'.heap.size, rfl, by simp, row2 rfl⟩
    go_simp
  simp only [Act.put, List.setIfInBounds_toArray, List.set_cons_zero, List.set_cons_succ]
  refine g_calls 49 #[.string ⟨#[97, 100, 100]⟩, u32] (.string tx) grow_end rfl (wanted_none rfl) (by intro d hd w; cases hd; exact trivial) (fun w' hw' => ?_) (fun w' hw' hk => ?_) ?_
  · go_simp
  · obtain ⟨b, rfl, hb, hc⟩ : twoF tl tr u32 w' := hk 32 (looks_at (by simp [Op.operands, Call.operands]))
    refine (join_any _ b 2 [tl, tr] w' hc hb (by simp) (by simp) (by decide) HS.out).mono ?_
    rintro e w3 ⟨rfl, hb3⟩
    exact ⟨by rw [HX.out], hb3⟩
  simp only [Act.put, List.setIfInBounds_toArray, List.set_cons_zero, List.set_cons_succ]
  refine g_runs (.string tx) grow_end Up.refl rfl (wanted_none rfl) (by intro d hd w; cases hd; exact trivial) (fun w' hw' => ?_) ?_
  · go_simp
  simp only [Act.put, List.setIfInBounds_toArray, List.set_cons_zero, List.set_cons_succ]
  refine g_nil ?_
  intro w9 hw9 hk9
  go_wp2_with fail
  go_ret
  exact ⟨by rw [HE.out]; rfl, HB.out.trans (hw9.mono HB.out.size)⟩
set_option maxHeartbeats 1000000 in
set_option maxRecDepth 100000 in
theorem obsText_mul (l r : O) (ql : One' l.val) (qr : One' r.val) (ihl : Writes l) (ihr : Writes r) (hs : (Lib.join ([textO l, textO r].map (·.data.toList)) [44]).length ≤ 70368744177664) : Writes (.mul l r) := by
  intro w ht
  have a0 := fun v xT w => notConst 99 v xT w (by decide)
  have a1 := fun v xT w => notFix 99 v xT w (by decide)
  have a2 := fun v xT w => notAdd 99 v xT w (by decide)
  have a3 := fun v xT w => notNeg 99 v xT w (by decide)
  have a4 := fun v xT w => isMul v xT w
  have HT := hidI ht
  have hs0 := ql.store
  have cv0 := ql.cells
  have mv0 := ql.cells
  unfold Value.cells at mv0
  have hs1 := qr.store
  have cv1 := qr.cells
  have mv1 := qr.cells
  unfold Value.cells at mv1
  have HL : Hid (∀ w, TabW w → Calls Tryz.prog 29 #[l.val] w fun e w' => e = .returned (.string (textO l)) ∧ Below w.heap.size w w') := ihl
  have HR : Hid (∀ w, TabW w → Calls Tryz.prog 29 #[r.val] w fun e w' => e = .returned (.string (textO r)) ∧ Below w.heap.size w w') := ihr
  have HE : Hid (textO (.mul l r) = joinT ⟨#[109, 117, 108]⟩ [textO l, textO r]) := rfl
  obtain ⟨tx, HX⟩ : ∃ tx, Hid (joinT ⟨#[109, 117, 108]⟩ [textO l, textO r] = tx) := ⟨_, rfl⟩
  rw [HX.out] at HE
  have HS := hidI hs
  clear hs ht ihl ihr ql qr
  unfold O.val
  go_enter Tryz.func29, Tryz.ntmps29
  go_wp2_with fail
  obtain ⟨W, hW⟩ : ∃ W, W = w.alloc (.cells #[l.val, r.val] 99) := ⟨_, rfl⟩
  have HB : Hid (Below w.heap.size w W) := by rw [hW]; exact below_alloc (Below.refl _ _) _
  have HBK : Hid (W.heap[w.heap.size]? = some (.cells #[l.val, r.val] 99 (0, 0))) := by rw [hW]; exact heap_alloc_new _ _
  rw [← hW]
  clear hW
  have HF : Hid (∀ w', Below W.heap.size W w' → w'.cell? ⟨w.heap.size, 0, none⟩ = some l.val ∧ w'.cell? ⟨w.heap.size, 1, none⟩ = some r.val) := fun w' hw' => by
    have hbk := (hw'.block _ (Array.getElem?_eq_some_iff.1 HBK.out).1).trans HBK.out
    exact ⟨(cell_of_row _ _ _ _ _ _ hbk).trans rfl, (cell_of_row _ _ _ _ _ _ hbk).trans rfl⟩
  have HTW : Hid (∀ w', Below W.heap.size W w' → TabW w') := fun w' hw' => tabW_below HT.out (HB.out.trans (hw'.mono HB.out.size))
  clear HBK
  generalize l.val = vl at *
  generalize r.val = vr at *
  generalize textO l = tl at *
  generalize textO r = tr at *
  clear hs0 cv0 mv0 hs1 cv1 mv1 a0 a1 a2 a3 a4
  refine wp_region_grow (fun w' => Below W.heap.size W w') Up (modes [one (.pointer (some ⟨w.heap.size, 0, none⟩)), one (vl), one (.string tl), one (.pointer (some ⟨w.heap.size, 1, none⟩)), one (vr), one (.string tr), loose (twoF tl tr), one (.string tx), one (.string tx)]) (by kernel_rfl) (by kernel_rfl) (up_class _) (below_drew (Below.refl _ _)) ?_
  generalize hops : (#[_, _, _, _, _, _, _, _, _] : Array Oper) = ops
  clear hops
  refine g_runs (.pointer (some ⟨w.heap.size, 0, none⟩)) grow_end Up.refl rfl (wanted_none rfl) (by intro d hd w; cases hd; exact trivial) (fun w' hw' => ?_) ?_
  · go_simp
  simp only [Act.put, List.setIfInBounds_toArray, List.set_cons_zero, List.set_cons_succ]
  refine g_runs (vl) grow_end Up.refl rfl (wanted_none rfl) (by intro d hd w; cases hd; exact trivial) (fun w' hw' => ?_) ?_
  · obtain ⟨y0, y1⟩ := HF.out w' hw'
    go_simp
  simp only [Act.put, List.setIfInBounds_toArray, List.set_cons_zero, List.set_cons_succ]
  refine g_calls 29 #[vl] (.string tl) grow_end rfl (wanted_none rfl) (by intro d hd w; cases hd; exact trivial) (fun w' hw' => ?_) (fun w' hw' hk => ?_) ?_
  · go_simp
  · refine (HL.out w' (HTW.out w' hw')).mono ?_
    rintro e w3 ⟨rfl, hb3⟩
    exact ⟨rfl, hb3⟩
  simp only [Act.put, List.setIfInBounds_toArray, List.set_cons_zero, List.set_cons_succ]
  refine g_runs (.pointer (some ⟨w.heap.size, 1, none⟩)) grow_end Up.refl rfl (wanted_none rfl) (by intro d hd w; cases hd; exact trivial) (fun w' hw' => ?_) ?_
  · go_simp
  simp only [Act.put, List.setIfInBounds_toArray, List.set_cons_zero, List.set_cons_succ]
  refine g_runs (vr) grow_end Up.refl rfl (wanted_none rfl) (by intro d hd w; cases hd; exact trivial) (fun w' hw' => ?_) ?_
  · obtain ⟨y0, y1⟩ := HF.out w' hw'
    go_simp
  simp only [Act.put, List.setIfInBounds_toArray, List.set_cons_zero, List.set_cons_succ]
  refine g_calls 29 #[vr] (.string tr) grow_end rfl (wanted_none rfl) (by intro d hd w; cases hd; exact trivial) (fun w' hw' => ?_) (fun w' hw' hk => ?_) ?_
  · go_simp
  · refine (HR.out w' (HTW.out w' hw')).mono ?_
    rintro e w3 ⟨rfl, hb3⟩
    exact ⟨rfl, hb3⟩
  simp only [Act.put, List.setIfInBounds_toArray, List.set_cons_zero, List.set_cons_succ]
  refine g_makes (twoF tl tr) rfl (twoF_stays _ _) (wanted_none rfl) (fun w' hw' hk => ?_) (fun u51 => ?_)
  · refine ⟨.slice (some ⟨w'.heap.size, 0, none⟩) 2 2, w'.alloc (.cells #[.string tl, .string tr] 9), ?_, below_alloc (Below.refl _ _) _, w'.heap.size, rfl, by simp, row2 rfl⟩
    go_simp
  simp only [Act.put, List.setIfInBounds_toArray, List.set_cons_zero, List.set_cons_succ]
  refine g_calls 49 #[.string ⟨#[109, 117, 108]⟩, u51] (.string tx) grow_end rfl (wanted_none rfl) (by intro d hd w; cases hd; exact trivial) (fun w' hw' => ?_) (fun w' hw' hk => ?_) ?_
  · go_simp
  · obtain ⟨b, rfl, hb, hc⟩ : twoF tl tr u51 w' := hk 51 (looks_at (by simp [Op.operands, Call.operands]))
    refine (join_any _ b 2 [tl, tr] w' hc hb (by simp) (by simp) (by decide) HS.out).mono ?_
    rintro e w3 ⟨rfl, hb3⟩
    exact ⟨by rw [HX.out], hb3⟩
  simp only [Act.put, List.setIfInBounds_toArray, List.set_cons_zero, List.set_cons_succ]
  refine g_runs (.string tx) grow_end Up.refl rfl (wanted_none rfl) (by intro d hd w; cases hd; exact trivial) (fun w' hw' => ?_) ?_
  · go_simp
  simp only [Act.put, List.setIfInBounds_toArray, List.set_cons_zero, List.set_cons_succ]
  refine g_nil ?_
  intro w9 hw9 hk9
  go_wp2_with fail
  go_ret
  exact ⟨by rw [HE.out]; rfl, HB.out.trans (hw9.mono HB.out.size)⟩
set_option maxHeartbeats 1000000 in
set_option maxRecDepth 100000 in
theorem obsText_max (l r : O) (ql : One' l.val) (qr : One' r.val) (ihl : Writes l) (ihr : Writes r) (hs : (Lib.join ([textO l, textO r].map (·.data.toList)) [44]).length ≤ 70368744177664) : Writes (.max l r) := by
  intro w ht
  have a0 := fun v xT w => notConst 100 v xT w (by decide)
  have a1 := fun v xT w => notFix 100 v xT w (by decide)
  have a2 := fun v xT w => notAdd 100 v xT w (by decide)
  have a3 := fun v xT w => notNeg 100 v xT w (by decide)
  have a4 := fun v xT w => notMul 100 v xT w (by decide)
  have a5 := fun v xT w => oneMax v xT w
  have HT := hidI ht
  have hs0 := ql.store
  have cv0 := ql.cells
  have mv0 := ql.cells
  unfold Value.cells at mv0
  have hs1 := qr.store
  have cv1 := qr.cells
  have mv1 := qr.cells
  unfold Value.cells at mv1
  have HL : Hid (∀ w, TabW w → Calls Tryz.prog 29 #[l.val] w fun e w' => e = .returned (.string (textO l)) ∧ Below w.heap.size w w') := ihl
  have HR : Hid (∀ w, TabW w → Calls Tryz.prog 29 #[r.val] w fun e w' => e = .returned (.string (textO r)) ∧ Below w.heap.size w w') := ihr
  have HE : Hid (textO (.max l r) = joinT ⟨#[109, 97, 120]⟩ [textO l, textO r]) := rfl
  obtain ⟨tx, HX⟩ : ∃ tx, Hid (joinT ⟨#[109, 97, 120]⟩ [textO l, textO r] = tx) := ⟨_, rfl⟩
  rw [HX.out] at HE
  have HS := hidI hs
  clear hs ht ihl ihr ql qr
  unfold O.val
  go_enter Tryz.func29, Tryz.ntmps29
  go_wp2_with fail
  obtain ⟨W, hW⟩ : ∃ W, W = w.alloc (.cells #[l.val, r.val] 100) := ⟨_, rfl⟩
  have HB : Hid (Below w.heap.size w W) := by rw [hW]; exact below_alloc (Below.refl _ _) _
  have HBK : Hid (W.heap[w.heap.size]? = some (.cells #[l.val, r.val] 100 (0, 0))) := by rw [hW]; exact heap_alloc_new _ _
  rw [← hW]
  clear hW
  have HF : Hid (∀ w', Below W.heap.size W w' → w'.cell? ⟨w.heap.size, 0, none⟩ = some l.val ∧ w'.cell? ⟨w.heap.size, 1, none⟩ = some r.val) := fun w' hw' => by
    have hbk := (hw'.block _ (Array.getElem?_eq_some_iff.1 HBK.out).1).trans HBK.out
    exact ⟨(cell_of_row _ _ _ _ _ _ hbk).trans rfl, (cell_of_row _ _ _ _ _ _ hbk).trans rfl⟩
  have HTW : Hid (∀ w', Below W.heap.size W w' → TabW w') := fun w' hw' => tabW_below HT.out (HB.out.trans (hw'.mono HB.out.size))
  clear HBK
  generalize l.val = vl at *
  generalize r.val = vr at *
  generalize textO l = tl at *
  generalize textO r = tr at *
  clear hs0 cv0 mv0 hs1 cv1 mv1 a0 a1 a2 a3 a4 a5
  refine wp_region_grow (fun w' => Below W.heap.size W w') Up (modes [one (.pointer (some ⟨w.heap.size, 0, none⟩)), one (vl), one (.string tl), one (.pointer (some ⟨w.heap.size, 1, none⟩)), one (vr), one (.string tr), loose (twoF tl tr), one (.string tx), one (.string tx)]) (by kernel_rfl) (by kernel_rfl) (up_class _) (below_drew (Below.refl _ _)) ?_
  generalize hops : (#[_, _, _, _, _, _, _, _, _] : Array Oper) = ops
  clear hops
  refine g_runs (.pointer (some ⟨w.heap.size, 0, none⟩)) grow_end Up.refl rfl (wanted_none rfl) (by intro d hd w; cases hd; exact trivial) (fun w' hw' => ?_) ?_
  · go_simp
  simp only [Act.put, List.setIfInBounds_toArray, List.set_cons_zero, List.set_cons_succ]
  refine g_runs (vl) grow_end Up.refl rfl (wanted_none rfl) (by intro d hd w; cases hd; exact trivial) (fun w' hw' => ?_) ?_
  · obtain ⟨y0, y1⟩ := HF.out w' hw'
    go_simp
  simp only [Act.put, List.setIfInBounds_toArray, List.set_cons_zero, List.set_cons_succ]
  refine g_calls 29 #[vl] (.string tl) grow_end rfl (wanted_none rfl) (by intro d hd w; cases hd; exact trivial) (fun w' hw' => ?_) (fun w' hw' hk => ?_) ?_
  · go_simp
  · refine (HL.out w' (HTW.out w' hw')).mono ?_
    rintro e w3 ⟨rfl, hb3⟩
    exact ⟨rfl, hb3⟩
  simp only [Act.put, List.setIfInBounds_toArray, List.set_cons_zero, List.set_cons_succ]
  refine g_runs (.pointer (some ⟨w.heap.size, 1, none⟩)) grow_end Up.refl rfl (wanted_none rfl) (by intro d hd w; cases hd; exact trivial) (fun w' hw' => ?_) ?_
  · go_simp
  simp only [Act.put, List.setIfInBounds_toArray, List.set_cons_zero, List.set_cons_succ]
  refine g_runs (vr) grow_end Up.refl rfl (wanted_none rfl) (by intro d hd w; cases hd; exact trivial) (fun w' hw' => ?_) ?_
  · obtain ⟨y0, y1⟩ := HF.out w' hw'
    go_simp
  simp only [Act.put, List.setIfInBounds_toArray, List.set_cons_zero, List.set_cons_succ]
  refine g_calls 29 #[vr] (.string tr) grow_end rfl (wanted_none rfl) (by intro d hd w; cases hd; exact trivial) (fun w' hw' => ?_) (fun w' hw' hk => ?_) ?_
  · go_simp
  · refine (HR.out w' (HTW.out w' hw')).mono ?_
    rintro e w3 ⟨rfl, hb3⟩
    exact ⟨rfl, hb3⟩
  simp only [Act.put, List.setIfInBounds_toArray, List.set_cons_zero, List.set_cons_succ]
  refine g_makes (twoF tl tr) rfl (twoF_stays _ _) (wanted_none rfl) (fun w' hw' hk => ?_) (fun u61 => ?_)
  · refine ⟨.slice (some ⟨w'.heap.size, 0, none⟩) 2 2, w'.alloc (.cells #[.string tl, .string tr] 9), ?_, below_alloc (Below.refl _ _) _, w'.heap.size, rfl, by simp, row2 rfl⟩
    go_simp
  simp only [Act.put, List.setIfInBounds_toArray, List.set_cons_zero, List.set_cons_succ]
  refine g_calls 49 #[.string ⟨#[109, 97, 120]⟩, u61] (.string tx) grow_end rfl (wanted_none rfl) (by intro d hd w; cases hd; exact trivial) (fun w' hw' => ?_) (fun w' hw' hk => ?_) ?_
  · go_simp
  · obtain ⟨b, rfl, hb, hc⟩ : twoF tl tr u61 w' := hk 61 (looks_at (by simp [Op.operands, Call.operands]))
    refine (join_any _ b 2 [tl, tr] w' hc hb (by simp) (by simp) (by decide) HS.out).mono ?_
    rintro e w3 ⟨rfl, hb3⟩
    exact ⟨by rw [HX.out], hb3⟩
  simp only [Act.put, List.setIfInBounds_toArray, List.set_cons_zero, List.set_cons_succ]
  refine g_runs (.string tx) grow_end Up.refl rfl (wanted_none rfl) (by intro d hd w; cases hd; exact trivial) (fun w' hw' => ?_) ?_
  · go_simp
  simp only [Act.put, List.setIfInBounds_toArray, List.set_cons_zero, List.set_cons_succ]
  refine g_nil ?_
  intro w9 hw9 hk9
  go_wp2_with fail
  go_ret
  exact ⟨by rw [HE.out]; rfl, HB.out.trans (hw9.mono HB.out.size)⟩

end Go.Proofs.YtfmjjfpajohihaaGreatDoor
namespace Go.Proofs.YtfmjjfpajohihaaGreatDoor
open Go.RowKit
set_option linter.unusedVariables false

theorem oneIf (v : Value) (xT : TypeId) (w : World) : (Instr.typeAssert (.iface 89 v) xT 89 false).run Tryz.prog w = .ok v w := assert_one Tryz.underlying89 (by intro m h; cases h) v xT w
def textC : C → ByteArray
  | .zero => ⟨#[122, 101, 114, 111]⟩
  | .one s => joinT ⟨#[111, 110, 101]⟩ [s]
  | .give c => joinT ⟨#[103, 105, 118, 101]⟩ [textC c]
  | .and l r => joinT ⟨#[97, 110, 100]⟩ [textC l, textC r]
  | .or s l r => joinT ⟨#[111, 114]⟩ [s, textC l, textC r]
  | .scale o c => joinT ⟨#[115, 99, 97, 108, 101]⟩ [textO o, textC c]
  | .when d c => joinT ⟨#[119, 104, 101, 110]⟩ [numT d, textC c]
  | .iff o l r => joinT ⟨#[105, 102]⟩ [textO o, textC l, textC r]
  | .odd _ => ⟨#[]⟩
def WritesC (c : C) : Prop := ∀ w : World, TabW w → Calls Tryz.prog 25 #[c.val] w fun e w' => e = .returned (.string (textC c)) ∧ Below w.heap.size w w'
theorem row3 {w : World} {b t : Nat} {s u z : ByteArray} (hb : b = w.heap.size) : ∀ (j : Nat) (x : ByteArray), [s, u, z][j]? = some x → (w.alloc (.cells #[.string s, .string u, .string z] t)).cell? ⟨b, j, none⟩ = some (.string x) := by
  intro j x hj
  subst hb
  rw [cell_of_row _ _ _ _ _ _ (heap_alloc_new _ _)]
  match j, hj with
  | 0, hj => simp at hj; subst hj; rfl
  | 1, hj => simp at hj; subst hj; rfl
  | 2, hj => simp at hj; subst hj; rfl
/-- Three texts in a row. -/
def threeF (s u z : ByteArray) (v : Value) (w : World) : Prop := ∃ b, v = .slice (some ⟨b, 0, none⟩) 3 3 ∧ b < w.heap.size ∧ ∀ (j : Nat) (x : ByteArray), [s, u, z][j]? = some x → w.cell? ⟨b, j, none⟩ = some (.string x)
theorem threeF_stays (s u z : ByteArray) : ∀ v w w', Up w w' → threeF s u z v w → threeF s u z v w' := fun v w w' h ⟨b, e, hb, hc⟩ => ⟨b, e, Nat.lt_of_lt_of_le hb (Below.size h), fun j x hj => (Below.cell h (p := ⟨b, j, none⟩) hb).trans (hc j x hj)⟩
set_option maxHeartbeats 1000000 in
set_option maxRecDepth 100000 in
theorem termText_zero : WritesC .zero := by
  intro w ht
  have a0 := fun v xT w => isZero v xT w
  clear ht
  unfold C.val
  go_enter Tryz.func25, Tryz.ntmps25
  go_wp2_with fail
  go_ret
  exact ⟨rfl, by repeat first | exact Below.refl _ _ | refine below_alloc ?_ _⟩
set_option maxHeartbeats 1000000 in
set_option maxRecDepth 100000 in
theorem termText_one (s : ByteArray) (hs : (Lib.join ([s].map (·.data.toList)) [44]).length ≤ 70368744177664) : WritesC (.one s) := by
  intro w ht
  have a0 := fun v xT w => notZero 79 v xT w (by decide)
  have a1 := fun v xT w => isOne v xT w
  have HS := hidI hs
  clear hs ht
  unfold C.val
  go_enter Tryz.func25, Tryz.ntmps25
  go_wp2_with fail
  refine (join_any _ (w.heap.size + 1) 1 [s] _ (row1 (by simp)) (by simp) (by simp) (by simp) (by decide) HS.out).mono ?_
  rintro e w1 ⟨rfl, hb1⟩
  have HB := hidI ((below_alloc (below_alloc (Below.refl w.heap.size w) (.cells #[.string s] 79)) (.cells #[.string s] 9)).trans (hb1.mono (by simp; omega)))
  clear hb1
  go_wp2_with fail
  go_ret
  exact ⟨rfl, HB.out⟩
set_option maxHeartbeats 1000000 in
set_option maxRecDepth 100000 in
theorem termText_give (o : C) (q : One' o.val) (ih : WritesC o) (hs : (Lib.join ([textC o].map (·.data.toList)) [44]).length ≤ 70368744177664) : WritesC (.give o) := by
  intro w ht
  have a0 := fun v xT w => notZero 69 v xT w (by decide)
  have a1 := fun v xT w => notOne 69 v xT w (by decide)
  have a2 := fun v xT w => isGive v xT w
  have HS := hidI hs
  have HT := hidI ht
  have HI := hidI ih
  have hs0 := q.store
  have cv0 := q.cells
  have mv0 := q.cells
  unfold Value.cells at mv0
  clear hs ht ih q
  unfold C.val
  go_enter Tryz.func25, Tryz.ntmps25
  go_wp2_with fail
  refine (HI.out _ (tabW_below HT.out (below_alloc (Below.refl _ _) _))).mono ?_
  rintro e w1 ⟨rfl, hb1⟩
  have HB := hidI ((below_alloc (Below.refl w.heap.size w) (.cells #[o.val] 69)).trans (hb1.mono (by simp)))
  clear hb1
  go_wp2_with fail
  refine (join_any _ w1.heap.size 1 [textC o] _ (row1 rfl) (by simp) (by simp) (by simp) (by decide) HS.out).mono ?_
  rintro e w2 ⟨rfl, hb2⟩
  have HB2 := hidI ((below_alloc HB.out (.cells #[.string (textC o)] 9)).trans (hb2.mono (by have := HB.out.size; simp; omega)))
  clear hb2
  go_wp2_with fail
  go_ret
  exact ⟨rfl, HB2.out⟩
set_option maxHeartbeats 1000000 in
set_option maxRecDepth 100000 in
theorem termText_and (l r : C) (q0 : One' l.val) (ih0 : WritesC l) (q1 : One' r.val) (ih1 : WritesC r) (hs : (Lib.join ([textC l, textC r].map (·.data.toList)) [44]).length ≤ 70368744177664) : WritesC (.and l r) := by
  intro w ht
  have a0 := fun v xT w => notZero 81 v xT w (by decide)
  have a1 := fun v xT w => notOne 81 v xT w (by decide)
  have a2 := fun v xT w => notGive 81 v xT w (by decide)
  have a3 := fun v xT w => isAnd v xT w
  have HT := hidI ht
  have HE : Hid (textC (.and l r) = joinT ⟨#[97, 110, 100]⟩ [textC l, textC r]) := rfl
  obtain ⟨tx, HX⟩ : ∃ tx, Hid (joinT ⟨#[97, 110, 100]⟩ [textC l, textC r] = tx) := ⟨_, rfl⟩
  rw [HX.out] at HE
  have HS := hidI hs
  have HI0 : Hid (∀ w, TabW w → Calls Tryz.prog 25 #[l.val] w fun e w' => e = .returned (.string (textC l)) ∧ Below w.heap.size w w') := ih0
  have hs0 := q0.store
  have cv0 := q0.cells
  have mv0 := q0.cells
  unfold Value.cells at mv0
  have HI1 : Hid (∀ w, TabW w → Calls Tryz.prog 25 #[r.val] w fun e w' => e = .returned (.string (textC r)) ∧ Below w.heap.size w w') := ih1
  have hs1 := q1.store
  have cv1 := q1.cells
  have mv1 := q1.cells
  unfold Value.cells at mv1
  clear hs ht ih0 q0 ih1 q1
  unfold C.val
  go_enter Tryz.func25, Tryz.ntmps25
  go_wp2_with fail
  obtain ⟨W, hW⟩ : ∃ W, W = w.alloc (.cells #[l.val, r.val] 81) := ⟨_, rfl⟩
  have HB : Hid (Below w.heap.size w W) := by rw [hW]; exact below_alloc (Below.refl _ _) _
  have HBK : Hid (W.heap[w.heap.size]? = some (.cells #[l.val, r.val] 81 (0, 0))) := by rw [hW]; exact heap_alloc_new _ _
  rw [← hW]
  clear hW
  have HF : Hid (∀ w', Below W.heap.size W w' → w'.cell? ⟨w.heap.size, 0, none⟩ = some (l.val) ∧ w'.cell? ⟨w.heap.size, 1, none⟩ = some (r.val)) := fun w' hw' => by
    have hbk := (hw'.block _ (Array.getElem?_eq_some_iff.1 HBK.out).1).trans HBK.out
    exact ⟨(cell_of_row _ _ _ _ _ _ hbk).trans rfl, (cell_of_row _ _ _ _ _ _ hbk).trans rfl⟩
  have HTW : Hid (∀ w', Below W.heap.size W w' → TabW w') := fun w' hw' => tabW_below HT.out (HB.out.trans (hw'.mono HB.out.size))
  clear HBK
  generalize l.val = v0 at *
  generalize textC l = t0 at *
  generalize r.val = v1 at *
  generalize textC r = t1 at *
  clear hs0 cv0 mv0 hs1 cv1 mv1 a0 a1 a2 a3
  refine wp_region_grow (fun w' => Below W.heap.size W w') Up (modes [one (.pointer (some ⟨w.heap.size, 0, none⟩)), one (v0), one (.string t0), one (.pointer (some ⟨w.heap.size, 1, none⟩)), one (v1), one (.string t1), loose (twoF t0 t1), one (.string tx), one (.string tx)]) (by kernel_rfl) (by kernel_rfl) (up_class _) (below_drew (Below.refl _ _)) ?_
  generalize hops : (#[_, _, _, _, _, _, _, _, _] : Array Oper) = ops
  clear hops
  refine g_runs (.pointer (some ⟨w.heap.size, 0, none⟩)) grow_end Up.refl rfl (wanted_none rfl) (by intro d hd w; cases hd; exact trivial) (fun w' hw' => ?_) ?_
  · go_simp
  simp only [Act.put, List.setIfInBounds_toArray, List.set_cons_zero, List.set_cons_succ]
  refine g_runs (v0) grow_end Up.refl rfl (wanted_none rfl) (by intro d hd w; cases hd; exact trivial) (fun w' hw' => ?_) ?_
  · obtain ⟨y0, y1⟩ := HF.out w' hw'
    go_simp
  simp only [Act.put, List.setIfInBounds_toArray, List.set_cons_zero, List.set_cons_succ]
  refine g_calls 25 #[v0] (.string t0) grow_end rfl (wanted_none rfl) (by intro d hd w; cases hd; exact trivial) (fun w' hw' => ?_) (fun w' hw' hk => ?_) ?_
  · go_simp
  · refine (HI0.out w' (HTW.out w' hw')).mono ?_
    rintro e w3 ⟨rfl, hb3⟩
    exact ⟨rfl, hb3⟩
  simp only [Act.put, List.setIfInBounds_toArray, List.set_cons_zero, List.set_cons_succ]
  refine g_runs (.pointer (some ⟨w.heap.size, 1, none⟩)) grow_end Up.refl rfl (wanted_none rfl) (by intro d hd w; cases hd; exact trivial) (fun w' hw' => ?_) ?_
  · go_simp
  simp only [Act.put, List.setIfInBounds_toArray, List.set_cons_zero, List.set_cons_succ]
  refine g_runs (v1) grow_end Up.refl rfl (wanted_none rfl) (by intro d hd w; cases hd; exact trivial) (fun w' hw' => ?_) ?_
  · obtain ⟨y0, y1⟩ := HF.out w' hw'
    go_simp
  simp only [Act.put, List.setIfInBounds_toArray, List.set_cons_zero, List.set_cons_succ]
  refine g_calls 25 #[v1] (.string t1) grow_end rfl (wanted_none rfl) (by intro d hd w; cases hd; exact trivial) (fun w' hw' => ?_) (fun w' hw' hk => ?_) ?_
  · go_simp
  · refine (HI1.out w' (HTW.out w' hw')).mono ?_
    rintro e w3 ⟨rfl, hb3⟩
    exact ⟨rfl, hb3⟩
  simp only [Act.put, List.setIfInBounds_toArray, List.set_cons_zero, List.set_cons_succ]
  refine g_makes (twoF t0 t1) rfl (twoF_stays _ _) (wanted_none rfl) (fun w' hw' hk => ?_) (fun u39 => ?_)
  · refine ⟨.slice (some ⟨w'.heap.size, 0, none⟩) 2 2, w'.alloc (.cells #[.string t0, .string t1] 9), ?_, below_alloc (Below.refl _ _) _, w'.heap.size, rfl, by simp, row2 rfl⟩
    go_simp
  simp only [Act.put, List.setIfInBounds_toArray, List.set_cons_zero, List.set_cons_succ]
  refine g_calls 49 #[.string ⟨#[97, 110, 100]⟩, u39] (.string tx) grow_end rfl (wanted_none rfl) (by intro d hd w; cases hd; exact trivial) (fun w' hw' => ?_) (fun w' hw' hk => ?_) ?_
  · go_simp
  · obtain ⟨b, rfl, hb, hc⟩ : twoF t0 t1 u39 w' := hk 39 (looks_at (by simp [Op.operands, Call.operands]))
    refine (join_any _ b 2 [t0, t1] w' hc hb (by simp) (by simp) (by decide) HS.out).mono ?_
    rintro e w3 ⟨rfl, hb3⟩
    exact ⟨by rw [HX.out], hb3⟩
  simp only [Act.put, List.setIfInBounds_toArray, List.set_cons_zero, List.set_cons_succ]
  refine g_runs (.string tx) grow_end Up.refl rfl (wanted_none rfl) (by intro d hd w; cases hd; exact trivial) (fun w' hw' => ?_) ?_
  · go_simp
  simp only [Act.put, List.setIfInBounds_toArray, List.set_cons_zero, List.set_cons_succ]
  refine g_nil ?_
  intro w9 hw9 hk9
  go_wp2_with fail
  go_ret
  exact ⟨by rw [HE.out]; rfl, HB.out.trans (hw9.mono HB.out.size)⟩
set_option maxHeartbeats 1000000 in
set_option maxRecDepth 100000 in
theorem termText_or (s : ByteArray) (l r : C) (q1 : One' l.val) (ih1 : WritesC l) (q2 : One' r.val) (ih2 : WritesC r) (hs : (Lib.join ([s, textC l, textC r].map (·.data.toList)) [44]).length ≤ 70368744177664) : WritesC (.or s l r) := by
  intro w ht
  have a0 := fun v xT w => notZero 83 v xT w (by decide)
  have a1 := fun v xT w => notOne 83 v xT w (by decide)
  have a2 := fun v xT w => notGive 83 v xT w (by decide)
  have a3 := fun v xT w => notAnd 83 v xT w (by decide)
  have a4 := fun v xT w => isOr v xT w
  have HT := hidI ht
  have HE : Hid (textC (.or s l r) = joinT ⟨#[111, 114]⟩ [s, textC l, textC r]) := rfl
  obtain ⟨tx, HX⟩ : ∃ tx, Hid (joinT ⟨#[111, 114]⟩ [s, textC l, textC r] = tx) := ⟨_, rfl⟩
  rw [HX.out] at HE
  have HS := hidI hs
  have HI1 : Hid (∀ w, TabW w → Calls Tryz.prog 25 #[l.val] w fun e w' => e = .returned (.string (textC l)) ∧ Below w.heap.size w w') := ih1
  have hs1 := q1.store
  have cv1 := q1.cells
  have mv1 := q1.cells
  unfold Value.cells at mv1
  have HI2 : Hid (∀ w, TabW w → Calls Tryz.prog 25 #[r.val] w fun e w' => e = .returned (.string (textC r)) ∧ Below w.heap.size w w') := ih2
  have hs2 := q2.store
  have cv2 := q2.cells
  have mv2 := q2.cells
  unfold Value.cells at mv2
  clear hs ht ih1 q1 ih2 q2
  unfold C.val
  go_enter Tryz.func25, Tryz.ntmps25
  go_wp2_with fail
  obtain ⟨W, hW⟩ : ∃ W, W = w.alloc (.cells #[.string s, l.val, r.val] 83) := ⟨_, rfl⟩
  have HB : Hid (Below w.heap.size w W) := by rw [hW]; exact below_alloc (Below.refl _ _) _
  have HBK : Hid (W.heap[w.heap.size]? = some (.cells #[.string s, l.val, r.val] 83 (0, 0))) := by rw [hW]; exact heap_alloc_new _ _
  rw [← hW]
  clear hW
  have HF : Hid (∀ w', Below W.heap.size W w' → w'.cell? ⟨w.heap.size, 0, none⟩ = some (.string s) ∧ w'.cell? ⟨w.heap.size, 1, none⟩ = some (l.val) ∧ w'.cell? ⟨w.heap.size, 2, none⟩ = some (r.val)) := fun w' hw' => by
    have hbk := (hw'.block _ (Array.getElem?_eq_some_iff.1 HBK.out).1).trans HBK.out
    exact ⟨(cell_of_row _ _ _ _ _ _ hbk).trans rfl, (cell_of_row _ _ _ _ _ _ hbk).trans rfl, (cell_of_row _ _ _ _ _ _ hbk).trans rfl⟩
  have HTW : Hid (∀ w', Below W.heap.size W w' → TabW w') := fun w' hw' => tabW_below HT.out (HB.out.trans (hw'.mono HB.out.size))
  clear HBK
  generalize l.val = v1 at *
  generalize textC l = t1 at *
  generalize r.val = v2 at *
  generalize textC r = t2 at *
  clear hs1 cv1 mv1 hs2 cv2 mv2 a0 a1 a2 a3 a4
  refine wp_region_grow (fun w' => Below W.heap.size W w') Up (modes [one (.pointer (some ⟨w.heap.size, 0, none⟩)), one (.string s), one (.pointer (some ⟨w.heap.size, 1, none⟩)), one (v1), one (.string t1), one (.pointer (some ⟨w.heap.size, 2, none⟩)), one (v2), one (.string t2), loose (threeF s t1 t2), one (.string tx), one (.string tx)]) (by kernel_rfl) (by kernel_rfl) (up_class _) (below_drew (Below.refl _ _)) ?_
  generalize hops : (#[_, _, _, _, _, _, _, _, _, _, _] : Array Oper) = ops
  clear hops
  refine g_runs (.pointer (some ⟨w.heap.size, 0, none⟩)) grow_end Up.refl rfl (wanted_none rfl) (by intro d hd w; cases hd; exact trivial) (fun w' hw' => ?_) ?_
  · go_simp
  simp only [Act.put, List.setIfInBounds_toArray, List.set_cons_zero, List.set_cons_succ]
  refine g_runs (.string s) grow_end Up.refl rfl (wanted_none rfl) (by intro d hd w; cases hd; exact trivial) (fun w' hw' => ?_) ?_
  · obtain ⟨y0, y1, y2⟩ := HF.out w' hw'
    go_simp
  simp only [Act.put, List.setIfInBounds_toArray, List.set_cons_zero, List.set_cons_succ]
  refine g_runs (.pointer (some ⟨w.heap.size, 1, none⟩)) grow_end Up.refl rfl (wanted_none rfl) (by intro d hd w; cases hd; exact trivial) (fun w' hw' => ?_) ?_
  · go_simp
  simp only [Act.put, List.setIfInBounds_toArray, List.set_cons_zero, List.set_cons_succ]
  refine g_runs (v1) grow_end Up.refl rfl (wanted_none rfl) (by intro d hd w; cases hd; exact trivial) (fun w' hw' => ?_) ?_
  · obtain ⟨y0, y1, y2⟩ := HF.out w' hw'
    go_simp
  simp only [Act.put, List.setIfInBounds_toArray, List.set_cons_zero, List.set_cons_succ]
  refine g_calls 25 #[v1] (.string t1) grow_end rfl (wanted_none rfl) (by intro d hd w; cases hd; exact trivial) (fun w' hw' => ?_) (fun w' hw' hk => ?_) ?_
  · go_simp
  · refine (HI1.out w' (HTW.out w' hw')).mono ?_
    rintro e w3 ⟨rfl, hb3⟩
    exact ⟨rfl, hb3⟩
  simp only [Act.put, List.setIfInBounds_toArray, List.set_cons_zero, List.set_cons_succ]
  refine g_runs (.pointer (some ⟨w.heap.size, 2, none⟩)) grow_end Up.refl rfl (wanted_none rfl) (by intro d hd w; cases hd; exact trivial) (fun w' hw' => ?_) ?_
  · go_simp
  simp only [Act.put, List.setIfInBounds_toArray, List.set_cons_zero, List.set_cons_succ]
  refine g_runs (v2) grow_end Up.refl rfl (wanted_none rfl) (by intro d hd w; cases hd; exact trivial) (fun w' hw' => ?_) ?_
  · obtain ⟨y0, y1, y2⟩ := HF.out w' hw'
    go_simp
  simp only [Act.put, List.setIfInBounds_toArray, List.set_cons_zero, List.set_cons_succ]
  refine g_calls 25 #[v2] (.string t2) grow_end rfl (wanted_none rfl) (by intro d hd w; cases hd; exact trivial) (fun w' hw' => ?_) (fun w' hw' hk => ?_) ?_
  · go_simp
  · refine (HI2.out w' (HTW.out w' hw')).mono ?_
    rintro e w3 ⟨rfl, hb3⟩
    exact ⟨rfl, hb3⟩
  simp only [Act.put, List.setIfInBounds_toArray, List.set_cons_zero, List.set_cons_succ]
  refine g_makes (threeF s t1 t2) rfl (threeF_stays _ _ _) (wanted_none rfl) (fun w' hw' hk => ?_) (fun u52 => ?_)
  · refine ⟨.slice (some ⟨w'.heap.size, 0, none⟩) 3 3, w'.alloc (.cells #[.string s, .string t1, .string t2] 9), ?_, below_alloc (Below.refl _ _) _, w'.heap.size, rfl, by simp, row3 rfl⟩
    go_simp
  simp only [Act.put, List.setIfInBounds_toArray, List.set_cons_zero, List.set_cons_succ]
  refine g_calls 49 #[.string ⟨#[111, 114]⟩, u52] (.string tx) grow_end rfl (wanted_none rfl) (by intro d hd w; cases hd; exact trivial) (fun w' hw' => ?_) (fun w' hw' hk => ?_) ?_
  · go_simp
  · obtain ⟨b, rfl, hb, hc⟩ : threeF s t1 t2 u52 w' := hk 52 (looks_at (by simp [Op.operands, Call.operands]))
    refine (join_any _ b 3 [s, t1, t2] w' hc hb (by simp) (by simp) (by decide) HS.out).mono ?_
    rintro e w3 ⟨rfl, hb3⟩
    exact ⟨by rw [HX.out], hb3⟩
  simp only [Act.put, List.setIfInBounds_toArray, List.set_cons_zero, List.set_cons_succ]
  refine g_runs (.string tx) grow_end Up.refl rfl (wanted_none rfl) (by intro d hd w; cases hd; exact trivial) (fun w' hw' => ?_) ?_
  · go_simp
  simp only [Act.put, List.setIfInBounds_toArray, List.set_cons_zero, List.set_cons_succ]
  refine g_nil ?_
  intro w9 hw9 hk9
  go_wp2_with fail
  go_ret
  exact ⟨by rw [HE.out]; rfl, HB.out.trans (hw9.mono HB.out.size)⟩
set_option maxHeartbeats 1000000 in
set_option maxRecDepth 100000 in
theorem termText_scale (n : O) (c : C) (q0 : One' n.val) (ih0 : Writes n) (q1 : One' c.val) (ih1 : WritesC c) (hs : (Lib.join ([textO n, textC c].map (·.data.toList)) [44]).length ≤ 70368744177664) : WritesC (.scale n c) := by
  intro w ht
  have a0 := fun v xT w => notZero 85 v xT w (by decide)
  have a1 := fun v xT w => notOne 85 v xT w (by decide)
  have a2 := fun v xT w => notGive 85 v xT w (by decide)
  have a3 := fun v xT w => notAnd 85 v xT w (by decide)
  have a4 := fun v xT w => notOr 85 v xT w (by decide)
  have a5 := fun v xT w => isScale v xT w
  have HT := hidI ht
  have HE : Hid (textC (.scale n c) = joinT ⟨#[115, 99, 97, 108, 101]⟩ [textO n, textC c]) := rfl
  obtain ⟨tx, HX⟩ : ∃ tx, Hid (joinT ⟨#[115, 99, 97, 108, 101]⟩ [textO n, textC c] = tx) := ⟨_, rfl⟩
  rw [HX.out] at HE
  have HS := hidI hs
  have HI0 : Hid (∀ w, TabW w → Calls Tryz.prog 29 #[n.val] w fun e w' => e = .returned (.string (textO n)) ∧ Below w.heap.size w w') := ih0
  have hs0 := q0.store
  have cv0 := q0.cells
  have mv0 := q0.cells
  unfold Value.cells at mv0
  have HI1 : Hid (∀ w, TabW w → Calls Tryz.prog 25 #[c.val] w fun e w' => e = .returned (.string (textC c)) ∧ Below w.heap.size w w') := ih1
  have hs1 := q1.store
  have cv1 := q1.cells
  have mv1 := q1.cells
  unfold Value.cells at mv1
  clear hs ht ih0 q0 ih1 q1
  unfold C.val
  go_enter Tryz.func25, Tryz.ntmps25
  go_wp2_with fail
  obtain ⟨W, hW⟩ : ∃ W, W = w.alloc (.cells #[n.val, c.val] 85) := ⟨_, rfl⟩
  have HB : Hid (Below w.heap.size w W) := by rw [hW]; exact below_alloc (Below.refl _ _) _
  have HBK : Hid (W.heap[w.heap.size]? = some (.cells #[n.val, c.val] 85 (0, 0))) := by rw [hW]; exact heap_alloc_new _ _
  rw [← hW]
  clear hW
  have HF : Hid (∀ w', Below W.heap.size W w' → w'.cell? ⟨w.heap.size, 0, none⟩ = some (n.val) ∧ w'.cell? ⟨w.heap.size, 1, none⟩ = some (c.val)) := fun w' hw' => by
    have hbk := (hw'.block _ (Array.getElem?_eq_some_iff.1 HBK.out).1).trans HBK.out
    exact ⟨(cell_of_row _ _ _ _ _ _ hbk).trans rfl, (cell_of_row _ _ _ _ _ _ hbk).trans rfl⟩
  have HTW : Hid (∀ w', Below W.heap.size W w' → TabW w') := fun w' hw' => tabW_below HT.out (HB.out.trans (hw'.mono HB.out.size))
  clear HBK
  generalize n.val = v0 at *
  generalize textO n = t0 at *
  generalize c.val = v1 at *
  generalize textC c = t1 at *
  clear hs0 cv0 mv0 hs1 cv1 mv1 a0 a1 a2 a3 a4 a5
  refine wp_region_grow (fun w' => Below W.heap.size W w') Up (modes [one (.pointer (some ⟨w.heap.size, 0, none⟩)), one (v0), one (.string t0), one (.pointer (some ⟨w.heap.size, 1, none⟩)), one (v1), one (.string t1), loose (twoF t0 t1), one (.string tx), one (.string tx)]) (by kernel_rfl) (by kernel_rfl) (up_class _) (below_drew (Below.refl _ _)) ?_
  generalize hops : (#[_, _, _, _, _, _, _, _, _] : Array Oper) = ops
  clear hops
  refine g_runs (.pointer (some ⟨w.heap.size, 0, none⟩)) grow_end Up.refl rfl (wanted_none rfl) (by intro d hd w; cases hd; exact trivial) (fun w' hw' => ?_) ?_
  · go_simp
  simp only [Act.put, List.setIfInBounds_toArray, List.set_cons_zero, List.set_cons_succ]
  refine g_runs (v0) grow_end Up.refl rfl (wanted_none rfl) (by intro d hd w; cases hd; exact trivial) (fun w' hw' => ?_) ?_
  · obtain ⟨y0, y1⟩ := HF.out w' hw'
    go_simp
  simp only [Act.put, List.setIfInBounds_toArray, List.set_cons_zero, List.set_cons_succ]
  refine g_calls 29 #[v0] (.string t0) grow_end rfl (wanted_none rfl) (by intro d hd w; cases hd; exact trivial) (fun w' hw' => ?_) (fun w' hw' hk => ?_) ?_
  · go_simp
  · refine (HI0.out w' (HTW.out w' hw')).mono ?_
    rintro e w3 ⟨rfl, hb3⟩
    exact ⟨rfl, hb3⟩
  simp only [Act.put, List.setIfInBounds_toArray, List.set_cons_zero, List.set_cons_succ]
  refine g_runs (.pointer (some ⟨w.heap.size, 1, none⟩)) grow_end Up.refl rfl (wanted_none rfl) (by intro d hd w; cases hd; exact trivial) (fun w' hw' => ?_) ?_
  · go_simp
  simp only [Act.put, List.setIfInBounds_toArray, List.set_cons_zero, List.set_cons_succ]
  refine g_runs (v1) grow_end Up.refl rfl (wanted_none rfl) (by intro d hd w; cases hd; exact trivial) (fun w' hw' => ?_) ?_
  · obtain ⟨y0, y1⟩ := HF.out w' hw'
    go_simp
  simp only [Act.put, List.setIfInBounds_toArray, List.set_cons_zero, List.set_cons_succ]
  refine g_calls 25 #[v1] (.string t1) grow_end rfl (wanted_none rfl) (by intro d hd w; cases hd; exact trivial) (fun w' hw' => ?_) (fun w' hw' hk => ?_) ?_
  · go_simp
  · refine (HI1.out w' (HTW.out w' hw')).mono ?_
    rintro e w3 ⟨rfl, hb3⟩
    exact ⟨rfl, hb3⟩
  simp only [Act.put, List.setIfInBounds_toArray, List.set_cons_zero, List.set_cons_succ]
  refine g_makes (twoF t0 t1) rfl (twoF_stays _ _) (wanted_none rfl) (fun w' hw' hk => ?_) (fun u63 => ?_)
  · refine ⟨.slice (some ⟨w'.heap.size, 0, none⟩) 2 2, w'.alloc (.cells #[.string t0, .string t1] 9), ?_, below_alloc (Below.refl _ _) _, w'.heap.size, rfl, by simp, row2 rfl⟩
    go_simp
  simp only [Act.put, List.setIfInBounds_toArray, List.set_cons_zero, List.set_cons_succ]
  refine g_calls 49 #[.string ⟨#[115, 99, 97, 108, 101]⟩, u63] (.string tx) grow_end rfl (wanted_none rfl) (by intro d hd w; cases hd; exact trivial) (fun w' hw' => ?_) (fun w' hw' hk => ?_) ?_
  · go_simp
  · obtain ⟨b, rfl, hb, hc⟩ : twoF t0 t1 u63 w' := hk 63 (looks_at (by simp [Op.operands, Call.operands]))
    refine (join_any _ b 2 [t0, t1] w' hc hb (by simp) (by simp) (by decide) HS.out).mono ?_
    rintro e w3 ⟨rfl, hb3⟩
    exact ⟨by rw [HX.out], hb3⟩
  simp only [Act.put, List.setIfInBounds_toArray, List.set_cons_zero, List.set_cons_succ]
  refine g_runs (.string tx) grow_end Up.refl rfl (wanted_none rfl) (by intro d hd w; cases hd; exact trivial) (fun w' hw' => ?_) ?_
  · go_simp
  simp only [Act.put, List.setIfInBounds_toArray, List.set_cons_zero, List.set_cons_succ]
  refine g_nil ?_
  intro w9 hw9 hk9
  go_wp2_with fail
  go_ret
  exact ⟨by rw [HE.out]; rfl, HB.out.trans (hw9.mono HB.out.size)⟩
set_option maxHeartbeats 1000000 in
set_option maxRecDepth 100000 in
theorem termText_when (d : Int) (hd0 : -9223372036854775808 ≤ d) (hd1 : d ≤ 9223372036854775807) (c : C) (q1 : One' c.val) (ih1 : WritesC c) (hs : (Lib.join ([numT d, textC c].map (·.data.toList)) [44]).length ≤ 70368744177664) : WritesC (.when d c) := by
  intro w ht
  have a0 := fun v xT w => notZero 87 v xT w (by decide)
  have a1 := fun v xT w => notOne 87 v xT w (by decide)
  have a2 := fun v xT w => notGive 87 v xT w (by decide)
  have a3 := fun v xT w => notAnd 87 v xT w (by decide)
  have a4 := fun v xT w => notOr 87 v xT w (by decide)
  have a5 := fun v xT w => notScale 87 v xT w (by decide)
  have a6 := fun v xT w => isWhen v xT w
  have HT := hidI ht
  have HE : Hid (textC (.when d c) = joinT ⟨#[119, 104, 101, 110]⟩ [numT d, textC c]) := rfl
  obtain ⟨tx, HX⟩ : ∃ tx, Hid (joinT ⟨#[119, 104, 101, 110]⟩ [numT d, textC c] = tx) := ⟨_, rfl⟩
  rw [HX.out] at HE
  have HS := hidI hs
  obtain ⟨t0, HN0⟩ : ∃ x, Hid (numT d = x) := ⟨_, rfl⟩
  rw [HN0.out] at HX HS
  have HI1 : Hid (∀ w, TabW w → Calls Tryz.prog 25 #[c.val] w fun e w' => e = .returned (.string (textC c)) ∧ Below w.heap.size w w') := ih1
  have hs1 := q1.store
  have cv1 := q1.cells
  have mv1 := q1.cells
  unfold Value.cells at mv1
  clear hs ht ih1 q1
  unfold C.val
  go_enter Tryz.func25, Tryz.ntmps25
  go_wp2_with fail
  obtain ⟨W, hW⟩ : ∃ W, W = w.alloc (.cells #[.int .i64 d, c.val] 87) := ⟨_, rfl⟩
  have HB : Hid (Below w.heap.size w W) := by rw [hW]; exact below_alloc (Below.refl _ _) _
  have HBK : Hid (W.heap[w.heap.size]? = some (.cells #[.int .i64 d, c.val] 87 (0, 0))) := by rw [hW]; exact heap_alloc_new _ _
  rw [← hW]
  clear hW
  have HF : Hid (∀ w', Below W.heap.size W w' → w'.cell? ⟨w.heap.size, 0, none⟩ = some (.int .i64 d) ∧ w'.cell? ⟨w.heap.size, 1, none⟩ = some (c.val)) := fun w' hw' => by
    have hbk := (hw'.block _ (Array.getElem?_eq_some_iff.1 HBK.out).1).trans HBK.out
    exact ⟨(cell_of_row _ _ _ _ _ _ hbk).trans rfl, (cell_of_row _ _ _ _ _ _ hbk).trans rfl⟩
  have HTW : Hid (∀ w', Below W.heap.size W w' → TabW w') := fun w' hw' => tabW_below HT.out (HB.out.trans (hw'.mono HB.out.size))
  clear HBK
  generalize c.val = v1 at *
  generalize textC c = t1 at *
  clear hs1 cv1 mv1 a0 a1 a2 a3 a4 a5 a6
  refine wp_region_grow (fun w' => Below W.heap.size W w') Up (modes [one (.pointer (some ⟨w.heap.size, 0, none⟩)), one (.int .i64 d), one (.string t0), one (.pointer (some ⟨w.heap.size, 1, none⟩)), one (v1), one (.string t1), loose (twoF t0 t1), one (.string tx), one (.string tx)]) (by kernel_rfl) (by kernel_rfl) (up_class _) (below_drew (Below.refl _ _)) ?_
  generalize hops : (#[_, _, _, _, _, _, _, _, _] : Array Oper) = ops
  clear hops
  refine g_runs (.pointer (some ⟨w.heap.size, 0, none⟩)) grow_end Up.refl rfl (wanted_none rfl) (by intro d hd w; cases hd; exact trivial) (fun w' hw' => ?_) ?_
  · go_simp
  simp only [Act.put, List.setIfInBounds_toArray, List.set_cons_zero, List.set_cons_succ]
  refine g_runs (.int .i64 d) grow_end Up.refl rfl (wanted_none rfl) (by intro d hd w; cases hd; exact trivial) (fun w' hw' => ?_) ?_
  · obtain ⟨y0, y1⟩ := HF.out w' hw'
    go_simp
  simp only [Act.put, List.setIfInBounds_toArray, List.set_cons_zero, List.set_cons_succ]
  refine g_calls 50 #[.int .i64 d] (.string t0) grow_end rfl (wanted_none rfl) (by intro d hd w; cases hd; exact trivial) (fun w' hw' => ?_) (fun w' hw' hk => ?_) ?_
  · go_simp
  · refine (itoa_any d hd0 hd1 w' (HTW.out w' hw')).mono ?_
    rintro e w3 ⟨rfl, hb3⟩
    exact ⟨by rw [HN0.out], hb3⟩
  simp only [Act.put, List.setIfInBounds_toArray, List.set_cons_zero, List.set_cons_succ]
  refine g_runs (.pointer (some ⟨w.heap.size, 1, none⟩)) grow_end Up.refl rfl (wanted_none rfl) (by intro d hd w; cases hd; exact trivial) (fun w' hw' => ?_) ?_
  · go_simp
  simp only [Act.put, List.setIfInBounds_toArray, List.set_cons_zero, List.set_cons_succ]
  refine g_runs (v1) grow_end Up.refl rfl (wanted_none rfl) (by intro d hd w; cases hd; exact trivial) (fun w' hw' => ?_) ?_
  · obtain ⟨y0, y1⟩ := HF.out w' hw'
    go_simp
  simp only [Act.put, List.setIfInBounds_toArray, List.set_cons_zero, List.set_cons_succ]
  refine g_calls 25 #[v1] (.string t1) grow_end rfl (wanted_none rfl) (by intro d hd w; cases hd; exact trivial) (fun w' hw' => ?_) (fun w' hw' hk => ?_) ?_
  · go_simp
  · refine (HI1.out w' (HTW.out w' hw')).mono ?_
    rintro e w3 ⟨rfl, hb3⟩
    exact ⟨rfl, hb3⟩
  simp only [Act.put, List.setIfInBounds_toArray, List.set_cons_zero, List.set_cons_succ]
  refine g_makes (twoF t0 t1) rfl (twoF_stays _ _) (wanted_none rfl) (fun w' hw' hk => ?_) (fun u74 => ?_)
  · refine ⟨.slice (some ⟨w'.heap.size, 0, none⟩) 2 2, w'.alloc (.cells #[.string t0, .string t1] 9), ?_, below_alloc (Below.refl _ _) _, w'.heap.size, rfl, by simp, row2 rfl⟩
    go_simp
  simp only [Act.put, List.setIfInBounds_toArray, List.set_cons_zero, List.set_cons_succ]
  refine g_calls 49 #[.string ⟨#[119, 104, 101, 110]⟩, u74] (.string tx) grow_end rfl (wanted_none rfl) (by intro d hd w; cases hd; exact trivial) (fun w' hw' => ?_) (fun w' hw' hk => ?_) ?_
  · go_simp
  · obtain ⟨b, rfl, hb, hc⟩ : twoF t0 t1 u74 w' := hk 74 (looks_at (by simp [Op.operands, Call.operands]))
    refine (join_any _ b 2 [t0, t1] w' hc hb (by simp) (by simp) (by decide) HS.out).mono ?_
    rintro e w3 ⟨rfl, hb3⟩
    exact ⟨by rw [HX.out], hb3⟩
  simp only [Act.put, List.setIfInBounds_toArray, List.set_cons_zero, List.set_cons_succ]
  refine g_runs (.string tx) grow_end Up.refl rfl (wanted_none rfl) (by intro d hd w; cases hd; exact trivial) (fun w' hw' => ?_) ?_
  · go_simp
  simp only [Act.put, List.setIfInBounds_toArray, List.set_cons_zero, List.set_cons_succ]
  refine g_nil ?_
  intro w9 hw9 hk9
  go_wp2_with fail
  go_ret
  exact ⟨by rw [HE.out]; rfl, HB.out.trans (hw9.mono HB.out.size)⟩
set_option maxHeartbeats 1000000 in
set_option maxRecDepth 100000 in
theorem termText_if (n : O) (l r : C) (q0 : One' n.val) (ih0 : Writes n) (q1 : One' l.val) (ih1 : WritesC l) (q2 : One' r.val) (ih2 : WritesC r) (hs : (Lib.join ([textO n, textC l, textC r].map (·.data.toList)) [44]).length ≤ 70368744177664) : WritesC (.iff n l r) := by
  intro w ht
  have a0 := fun v xT w => notZero 89 v xT w (by decide)
  have a1 := fun v xT w => notOne 89 v xT w (by decide)
  have a2 := fun v xT w => notGive 89 v xT w (by decide)
  have a3 := fun v xT w => notAnd 89 v xT w (by decide)
  have a4 := fun v xT w => notOr 89 v xT w (by decide)
  have a5 := fun v xT w => notScale 89 v xT w (by decide)
  have a6 := fun v xT w => notWhen 89 v xT w (by decide)
  have a7 := fun v xT w => oneIf v xT w
  have HT := hidI ht
  have HE : Hid (textC (.iff n l r) = joinT ⟨#[105, 102]⟩ [textO n, textC l, textC r]) := rfl
  obtain ⟨tx, HX⟩ : ∃ tx, Hid (joinT ⟨#[105, 102]⟩ [textO n, textC l, textC r] = tx) := ⟨_, rfl⟩
  rw [HX.out] at HE
  have HS := hidI hs
  have HI0 : Hid (∀ w, TabW w → Calls Tryz.prog 29 #[n.val] w fun e w' => e = .returned (.string (textO n)) ∧ Below w.heap.size w w') := ih0
  have hs0 := q0.store
  have cv0 := q0.cells
  have mv0 := q0.cells
  unfold Value.cells at mv0
  have HI1 : Hid (∀ w, TabW w → Calls Tryz.prog 25 #[l.val] w fun e w' => e = .returned (.string (textC l)) ∧ Below w.heap.size w w') := ih1
  have hs1 := q1.store
  have cv1 := q1.cells
  have mv1 := q1.cells
  unfold Value.cells at mv1
  have HI2 : Hid (∀ w, TabW w → Calls Tryz.prog 25 #[r.val] w fun e w' => e = .returned (.string (textC r)) ∧ Below w.heap.size w w') := ih2
  have hs2 := q2.store
  have cv2 := q2.cells
  have mv2 := q2.cells
  unfold Value.cells at mv2
  clear hs ht ih0 q0 ih1 q1 ih2 q2
  unfold C.val
  go_enter Tryz.func25, Tryz.ntmps25
  go_wp2_with fail
  obtain ⟨W, hW⟩ : ∃ W, W = w.alloc (.cells #[n.val, l.val, r.val] 89) := ⟨_, rfl⟩
  have HB : Hid (Below w.heap.size w W) := by rw [hW]; exact below_alloc (Below.refl _ _) _
  have HBK : Hid (W.heap[w.heap.size]? = some (.cells #[n.val, l.val, r.val] 89 (0, 0))) := by rw [hW]; exact heap_alloc_new _ _
  rw [← hW]
  clear hW
  have HF : Hid (∀ w', Below W.heap.size W w' → w'.cell? ⟨w.heap.size, 0, none⟩ = some (n.val) ∧ w'.cell? ⟨w.heap.size, 1, none⟩ = some (l.val) ∧ w'.cell? ⟨w.heap.size, 2, none⟩ = some (r.val)) := fun w' hw' => by
    have hbk := (hw'.block _ (Array.getElem?_eq_some_iff.1 HBK.out).1).trans HBK.out
    exact ⟨(cell_of_row _ _ _ _ _ _ hbk).trans rfl, (cell_of_row _ _ _ _ _ _ hbk).trans rfl, (cell_of_row _ _ _ _ _ _ hbk).trans rfl⟩
  have HTW : Hid (∀ w', Below W.heap.size W w' → TabW w') := fun w' hw' => tabW_below HT.out (HB.out.trans (hw'.mono HB.out.size))
  clear HBK
  generalize n.val = v0 at *
  generalize textO n = t0 at *
  generalize l.val = v1 at *
  generalize textC l = t1 at *
  generalize r.val = v2 at *
  generalize textC r = t2 at *
  clear hs0 cv0 mv0 hs1 cv1 mv1 hs2 cv2 mv2 a0 a1 a2 a3 a4 a5 a6 a7
  refine wp_region_grow (fun w' => Below W.heap.size W w') Up (modes [one (.pointer (some ⟨w.heap.size, 0, none⟩)), one (v0), one (.string t0), one (.pointer (some ⟨w.heap.size, 1, none⟩)), one (v1), one (.string t1), one (.pointer (some ⟨w.heap.size, 2, none⟩)), one (v2), one (.string t2), loose (threeF t0 t1 t2), one (.string tx), one (.string tx)]) (by kernel_rfl) (by kernel_rfl) (up_class _) (below_drew (Below.refl _ _)) ?_
  generalize hops : (#[_, _, _, _, _, _, _, _, _, _, _, _] : Array Oper) = ops
  clear hops
  refine g_runs (.pointer (some ⟨w.heap.size, 0, none⟩)) grow_end Up.refl rfl (wanted_none rfl) (by intro d hd w; cases hd; exact trivial) (fun w' hw' => ?_) ?_
  · go_simp
  simp only [Act.put, List.setIfInBounds_toArray, List.set_cons_zero, List.set_cons_succ]
  refine g_runs (v0) grow_end Up.refl rfl (wanted_none rfl) (by intro d hd w; cases hd; exact trivial) (fun w' hw' => ?_) ?_
  · obtain ⟨y0, y1, y2⟩ := HF.out w' hw'
    go_simp
  simp only [Act.put, List.setIfInBounds_toArray, List.set_cons_zero, List.set_cons_succ]
  refine g_calls 29 #[v0] (.string t0) grow_end rfl (wanted_none rfl) (by intro d hd w; cases hd; exact trivial) (fun w' hw' => ?_) (fun w' hw' hk => ?_) ?_
  · go_simp
  · refine (HI0.out w' (HTW.out w' hw')).mono ?_
    rintro e w3 ⟨rfl, hb3⟩
    exact ⟨rfl, hb3⟩
  simp only [Act.put, List.setIfInBounds_toArray, List.set_cons_zero, List.set_cons_succ]
  refine g_runs (.pointer (some ⟨w.heap.size, 1, none⟩)) grow_end Up.refl rfl (wanted_none rfl) (by intro d hd w; cases hd; exact trivial) (fun w' hw' => ?_) ?_
  · go_simp
  simp only [Act.put, List.setIfInBounds_toArray, List.set_cons_zero, List.set_cons_succ]
  refine g_runs (v1) grow_end Up.refl rfl (wanted_none rfl) (by intro d hd w; cases hd; exact trivial) (fun w' hw' => ?_) ?_
  · obtain ⟨y0, y1, y2⟩ := HF.out w' hw'
    go_simp
  simp only [Act.put, List.setIfInBounds_toArray, List.set_cons_zero, List.set_cons_succ]
  refine g_calls 25 #[v1] (.string t1) grow_end rfl (wanted_none rfl) (by intro d hd w; cases hd; exact trivial) (fun w' hw' => ?_) (fun w' hw' hk => ?_) ?_
  · go_simp
  · refine (HI1.out w' (HTW.out w' hw')).mono ?_
    rintro e w3 ⟨rfl, hb3⟩
    exact ⟨rfl, hb3⟩
  simp only [Act.put, List.setIfInBounds_toArray, List.set_cons_zero, List.set_cons_succ]
  refine g_runs (.pointer (some ⟨w.heap.size, 2, none⟩)) grow_end Up.refl rfl (wanted_none rfl) (by intro d hd w; cases hd; exact trivial) (fun w' hw' => ?_) ?_
  · go_simp
  simp only [Act.put, List.setIfInBounds_toArray, List.set_cons_zero, List.set_cons_succ]
  refine g_runs (v2) grow_end Up.refl rfl (wanted_none rfl) (by intro d hd w; cases hd; exact trivial) (fun w' hw' => ?_) ?_
  · obtain ⟨y0, y1, y2⟩ := HF.out w' hw'
    go_simp
  simp only [Act.put, List.setIfInBounds_toArray, List.set_cons_zero, List.set_cons_succ]
  refine g_calls 25 #[v2] (.string t2) grow_end rfl (wanted_none rfl) (by intro d hd w; cases hd; exact trivial) (fun w' hw' => ?_) (fun w' hw' hk => ?_) ?_
  · go_simp
  · refine (HI2.out w' (HTW.out w' hw')).mono ?_
    rintro e w3 ⟨rfl, hb3⟩
    exact ⟨rfl, hb3⟩
  simp only [Act.put, List.setIfInBounds_toArray, List.set_cons_zero, List.set_cons_succ]
  refine g_makes (threeF t0 t1 t2) rfl (threeF_stays _ _ _) (wanted_none rfl) (fun w' hw' hk => ?_) (fun u87 => ?_)
  · refine ⟨.slice (some ⟨w'.heap.size, 0, none⟩) 3 3, w'.alloc (.cells #[.string t0, .string t1, .string t2] 9), ?_, below_alloc (Below.refl _ _) _, w'.heap.size, rfl, by simp, row3 rfl⟩
    go_simp
  simp only [Act.put, List.setIfInBounds_toArray, List.set_cons_zero, List.set_cons_succ]
  refine g_calls 49 #[.string ⟨#[105, 102]⟩, u87] (.string tx) grow_end rfl (wanted_none rfl) (by intro d hd w; cases hd; exact trivial) (fun w' hw' => ?_) (fun w' hw' hk => ?_) ?_
  · go_simp
  · obtain ⟨b, rfl, hb, hc⟩ : threeF t0 t1 t2 u87 w' := hk 87 (looks_at (by simp [Op.operands, Call.operands]))
    refine (join_any _ b 3 [t0, t1, t2] w' hc hb (by simp) (by simp) (by decide) HS.out).mono ?_
    rintro e w3 ⟨rfl, hb3⟩
    exact ⟨by rw [HX.out], hb3⟩
  simp only [Act.put, List.setIfInBounds_toArray, List.set_cons_zero, List.set_cons_succ]
  refine g_runs (.string tx) grow_end Up.refl rfl (wanted_none rfl) (by intro d hd w; cases hd; exact trivial) (fun w' hw' => ?_) ?_
  · go_simp
  simp only [Act.put, List.setIfInBounds_toArray, List.set_cons_zero, List.set_cons_succ]
  refine g_nil ?_
  intro w9 hw9 hk9
  go_wp2_with fail
  go_ret
  exact ⟨by rw [HE.out]; rfl, HB.out.trans (hw9.mono HB.out.size)⟩

end Go.Proofs.YtfmjjfpajohihaaGreatDoor
namespace Go.Proofs.YtfmjjfpajohihaaGreatDoor
open Go.RowKit
set_option linter.unusedVariables false

theorem joinL1 (a : ByteArray) : (Lib.join ([a].map (·.data.toList)) [44]).length = a.size := by
  have e : ∀ x : ByteArray, x.data.toList.length = x.size := fun x => by simp
  show (a.data.toList ++ []).length = _
  simp only [List.length_append, List.length_nil, e, Nat.add_zero]
theorem joinL2 (a b : ByteArray) : (Lib.join ([a, b].map (·.data.toList)) [44]).length = a.size + b.size + 1 := by
  have e : ∀ x : ByteArray, x.data.toList.length = x.size := fun x => by simp
  show (a.data.toList ++ ([44] ++ (b.data.toList ++ []))).length = _
  simp only [List.length_append, List.length_cons, List.length_nil, e]; omega
theorem joinL3 (a b c : ByteArray) : (Lib.join ([a, b, c].map (·.data.toList)) [44]).length = a.size + b.size + c.size + 2 := by
  have e : ∀ x : ByteArray, x.data.toList.length = x.size := fun x => by simp
  show (a.data.toList ++ ([44] ++ (b.data.toList ++ ([44] ++ (c.data.toList ++ []))))).length = _
  simp only [List.length_append, List.length_cons, List.length_nil, e]; omega
theorem joinT_size (word : ByteArray) (xs : List ByteArray) : (joinT word xs).size = word.size + (Lib.join (xs.map (·.data.toList)) [44]).length + 2 := by
  have e1 : (ByteArray.mk #[40]).size = 1 := rfl
  have e2 : (ByteArray.mk #[41]).size = 1 := rfl
  have e3 : (ByteArray.mk (Lib.join (xs.map (·.data.toList)) [44]).toArray).size = (Lib.join (xs.map (·.data.toList)) [44]).length := by
    simp [ByteArray.size]
  unfold joinT
  rw [ByteArray.size_append, ByteArray.size_append, ByteArray.size_append, e1, e2, e3]; omega
/-- Nothing in it is none, each amount has 64 bits, each name has at most M bytes. -/
def O.neat (M : Nat) : O → Prop
  | .const n => -9223372036854775808 ≤ n ∧ n ≤ 9223372036854775807
  | .fix s => s.size ≤ M
  | .add l r => l.neat M ∧ r.neat M
  | .neg o => o.neat M
  | .mul l r => l.neat M ∧ r.neat M
  | .max l r => l.neat M ∧ r.neat M
  | .odd _ => False
def C.neat (M : Nat) : C → Prop
  | .zero => True
  | .one s => s.size ≤ M
  | .give c => c.neat M
  | .and l r => l.neat M ∧ r.neat M
  | .or s l r => s.size ≤ M ∧ l.neat M ∧ r.neat M
  | .scale o c => o.neat M ∧ c.neat M
  | .when d c => (-9223372036854775808 ≤ d ∧ d ≤ 9223372036854775807) ∧ c.neat M
  | .iff o l r => o.neat M ∧ l.neat M ∧ r.neat M
  | .odd _ => False
theorem textO_size (M : Nat) (o : O) (h : o.neat M) : (textO o).size ≤ (M + 30) * o.nodes := by
  induction o with
  | const n => have := numT_size n h.1 h.2; simp only [textO, O.nodes]; omega
  | fix s => have h' : s.size ≤ M := h; simp only [textO, O.nodes]; rw [joinT_size, joinL1]; have e : (ByteArray.mk #[102, 105, 120]).size = 3 := rfl; omega
  | add l r h1 h2 => have a := h1 h.1; have b := h2 h.2; simp only [textO, O.nodes]; rw [joinT_size, joinL2, Nat.mul_add, Nat.mul_add]; have e : (ByteArray.mk #[97, 100, 100]).size = 3 := rfl; omega
  | neg o h1 => have a := h1 h; simp only [textO, O.nodes]; rw [joinT_size, joinL1, Nat.mul_add]; have e : (ByteArray.mk #[110, 101, 103]).size = 3 := rfl; omega
  | mul l r h1 h2 => have a := h1 h.1; have b := h2 h.2; simp only [textO, O.nodes]; rw [joinT_size, joinL2, Nat.mul_add, Nat.mul_add]; have e : (ByteArray.mk #[109, 117, 108]).size = 3 := rfl; omega
  | max l r h1 h2 => have a := h1 h.1; have b := h2 h.2; simp only [textO, O.nodes]; rw [joinT_size, joinL2, Nat.mul_add, Nat.mul_add]; have e : (ByteArray.mk #[109, 97, 120]).size = 3 := rfl; omega
  | odd v => exact absurd h id
theorem textC_size (M : Nat) (c : C) (h : c.neat M) : (textC c).size ≤ (M + 30) * c.nodes := by
  induction c with
  | zero => simp only [textC, C.nodes]; have e : (ByteArray.mk #[122, 101, 114, 111]).size = 4 := rfl; omega
  | one s => have h' : s.size ≤ M := h; simp only [textC, C.nodes]; rw [joinT_size, joinL1]; have e : (ByteArray.mk #[111, 110, 101]).size = 3 := rfl; omega
  | give c h1 => have a := h1 h; simp only [textC, C.nodes]; rw [joinT_size, joinL1, Nat.mul_add]; have e : (ByteArray.mk #[103, 105, 118, 101]).size = 4 := rfl; omega
  | and l r h1 h2 => have a := h1 h.1; have b := h2 h.2; simp only [textC, C.nodes]; rw [joinT_size, joinL2, Nat.mul_add, Nat.mul_add]; have e : (ByteArray.mk #[97, 110, 100]).size = 3 := rfl; omega
  | or s l r h1 h2 => have h' : s.size ≤ M := h.1; have a := h1 h.2.1; have b := h2 h.2.2; simp only [textC, C.nodes]; rw [joinT_size, joinL3, Nat.mul_add, Nat.mul_add]; have e : (ByteArray.mk #[111, 114]).size = 2 := rfl; omega
  | scale o c h1 => have a := textO_size M o h.1; have b := h1 h.2; simp only [textC, C.nodes]; rw [joinT_size, joinL2, Nat.mul_add, Nat.mul_add]; have e : (ByteArray.mk #[115, 99, 97, 108, 101]).size = 5 := rfl; omega
  | when d c h1 => have a := numT_size d h.1.1 h.1.2; have b := h1 h.2; simp only [textC, C.nodes]; rw [joinT_size, joinL2, Nat.mul_add]; have e : (ByteArray.mk #[119, 104, 101, 110]).size = 4 := rfl; omega
  | iff o l r h1 h2 => have a := textO_size M o h.1; have b := h1 h.2.1; have c := h2 h.2.2; simp only [textC, C.nodes]; rw [joinT_size, joinL3, Nat.mul_add, Nat.mul_add, Nat.mul_add]; have e : (ByteArray.mk #[105, 102]).size = 2 := rfl; omega
  | odd v => exact absurd h id
theorem obsText_any (M : Nat) (o : O) (k : o.Ok) (h : o.neat M) (hb : (M + 30) * o.nodes ≤ 70368744177664) : Writes o := by
  induction o with
  | const n => exact obsText_const n h.1 h.2
  | fix s => exact obsText_fix s (by have q := textO_size M (.fix s) h; simp only [textO] at q; rw [joinT_size] at q; omega)
  | add l r h1 h2 => exact obsText_add l r (l.one' k.1) (r.one' k.2) (h1 k.1 h.1 (Nat.le_trans (Nat.mul_le_mul_left _ (by simp only [O.nodes]; omega)) hb)) (h2 k.2 h.2 (Nat.le_trans (Nat.mul_le_mul_left _ (by simp only [O.nodes]; omega)) hb)) (by have q := textO_size M (.add l r) h; simp only [textO] at q; rw [joinT_size] at q; omega)
  | mul l r h1 h2 => exact obsText_mul l r (l.one' k.1) (r.one' k.2) (h1 k.1 h.1 (Nat.le_trans (Nat.mul_le_mul_left _ (by simp only [O.nodes]; omega)) hb)) (h2 k.2 h.2 (Nat.le_trans (Nat.mul_le_mul_left _ (by simp only [O.nodes]; omega)) hb)) (by have q := textO_size M (.mul l r) h; simp only [textO] at q; rw [joinT_size] at q; omega)
  | max l r h1 h2 => exact obsText_max l r (l.one' k.1) (r.one' k.2) (h1 k.1 h.1 (Nat.le_trans (Nat.mul_le_mul_left _ (by simp only [O.nodes]; omega)) hb)) (h2 k.2 h.2 (Nat.le_trans (Nat.mul_le_mul_left _ (by simp only [O.nodes]; omega)) hb)) (by have q := textO_size M (.max l r) h; simp only [textO] at q; rw [joinT_size] at q; omega)
  | neg o h1 => exact obsText_neg o (o.one' k) (h1 k h (Nat.le_trans (Nat.mul_le_mul_left _ (by simp only [O.nodes]; omega)) hb)) (by have q := textO_size M (.neg o) h; simp only [textO] at q; rw [joinT_size] at q; omega)
  | odd v => exact absurd h id
theorem termText_any (M : Nat) (c : C) (k : c.Ok) (h : c.neat M) (hb : (M + 30) * c.nodes ≤ 70368744177664) : WritesC c := by
  induction c with
  | zero => exact termText_zero
  | one s => exact termText_one s (by have q := textC_size M (.one s) h; simp only [textC] at q; rw [joinT_size] at q; omega)
  | give c h1 => exact termText_give c (c.one' k) (h1 k h (Nat.le_trans (Nat.mul_le_mul_left _ (by simp only [C.nodes]; omega)) hb)) (by have q := textC_size M (.give c) h; simp only [textC] at q; rw [joinT_size] at q; omega)
  | and l r h1 h2 => exact termText_and l r (l.one' k.1) (h1 k.1 h.1 (Nat.le_trans (Nat.mul_le_mul_left _ (by simp only [C.nodes]; omega)) hb)) (r.one' k.2) (h2 k.2 h.2 (Nat.le_trans (Nat.mul_le_mul_left _ (by simp only [C.nodes]; omega)) hb)) (by have q := textC_size M (.and l r) h; simp only [textC] at q; rw [joinT_size] at q; omega)
  | or s l r h1 h2 => exact termText_or s l r (l.one' k.2.1) (h1 k.2.1 h.2.1 (Nat.le_trans (Nat.mul_le_mul_left _ (by simp only [C.nodes]; omega)) hb)) (r.one' k.2.2) (h2 k.2.2 h.2.2 (Nat.le_trans (Nat.mul_le_mul_left _ (by simp only [C.nodes]; omega)) hb)) (by have q := textC_size M (.or s l r) h; simp only [textC] at q; rw [joinT_size] at q; omega)
  | scale o c h1 => exact termText_scale o c (o.one' k.1) (obsText_any M o k.1 h.1 (Nat.le_trans (Nat.mul_le_mul_left _ (by simp only [C.nodes]; omega)) hb)) (c.one' k.2) (h1 k.2 h.2 (Nat.le_trans (Nat.mul_le_mul_left _ (by simp only [C.nodes]; omega)) hb)) (by have q := textC_size M (.scale o c) h; simp only [textC] at q; rw [joinT_size] at q; omega)
  | when d c h1 => exact termText_when d h.1.1 h.1.2 c (c.one' k.2) (h1 k.2 h.2 (Nat.le_trans (Nat.mul_le_mul_left _ (by simp only [C.nodes]; omega)) hb)) (by have q := textC_size M (.when d c) h; simp only [textC] at q; rw [joinT_size] at q; omega)
  | iff o l r h1 h2 => exact termText_if o l r (o.one' k.1) (obsText_any M o k.1 h.1 (Nat.le_trans (Nat.mul_le_mul_left _ (by simp only [C.nodes]; omega)) hb)) (l.one' k.2.1) (h1 k.2.1 h.2.1 (Nat.le_trans (Nat.mul_le_mul_left _ (by simp only [C.nodes]; omega)) hb)) (r.one' k.2.2) (h2 k.2.2 h.2.2 (Nat.le_trans (Nat.mul_le_mul_left _ (by simp only [C.nodes]; omega)) hb)) (by have q := textC_size M (.iff o l r) h; simp only [textC] at q; rw [joinT_size] at q; omega)
  | odd v => exact absurd h id
end Go.Proofs.YtfmjjfpajohihaaGreatDoor
namespace Go.Proofs.YtfmjjfpajohihaaGreatDoor
open Go.RowKit
set_option linter.unusedVariables false

theorem withinT_any (s : ByteArray) (hs : s.size ≤ 140737488351232) (w : World) :
    Calls Tryz.prog 24 #[.string s] w fun e w' => e = .returned (.tuple #[.string (if 1000 < s.size then ⟨#[]⟩ else s), .int .i64 (if 1000 < s.size then 5 else 0)]) ∧ w' = w := by
  by_cases h : 1000 < s.size
  · have h' : (1000 : Int) < (s.size : Int) := by omega
    rw [if_pos h, if_pos h]
    go_enter Tryz.func24, Tryz.ntmps24
    go_wp2
    go_ret2
    exact ⟨rfl, rfl⟩
  · have h' : ¬ (1000 : Int) < (s.size : Int) := by omega
    rw [if_neg h, if_neg h]
    go_enter Tryz.func24, Tryz.ntmps24
    go_wp2
    go_ret2
    exact ⟨rfl, rfl⟩
theorem formB_neat (o : O) (k : o.Ok) (h : formB o = true) : o.neat 2147483648 := by
  induction o with
  | const n => exact k
  | fix s => exact k
  | add l r h1 h2 => simp only [formB, Bool.and_eq_true] at h; exact ⟨h1 k.1 h.1, h2 k.2 h.2⟩
  | mul l r h1 h2 => simp only [formB, Bool.and_eq_true] at h; exact ⟨h1 k.1 h.1, h2 k.2 h.2⟩
  | max l r h1 h2 => simp only [formB, Bool.and_eq_true] at h; exact ⟨h1 k.1 h.1, h2 k.2 h.2⟩
  | neg o h1 => exact h1 k h
  | odd v => cases h
theorem formC_neat (c : C) (k : c.Ok) (h : formC c = true) : c.neat 2147483648 := by
  induction c with
  | zero => trivial
  | one s => exact k
  | give c h1 => exact h1 k h
  | and l r h1 h2 => simp only [formC, Bool.and_eq_true] at h; exact ⟨h1 k.1 h.1, h2 k.2 h.2⟩
  | or s l r h1 h2 => simp only [formC, Bool.and_eq_true] at h; exact ⟨k.1, h1 k.2.1 h.1.2, h2 k.2.2 h.2⟩
  | scale o c h1 => simp only [formC, Bool.and_eq_true] at h; exact ⟨formB_neat o k.1 h.1, h1 k.2 h.2⟩
  | when d c h1 => simp only [formC, Bool.and_eq_true] at h; exact ⟨k.1, h1 k.2 h.2⟩
  | iff o l r h1 h2 => simp only [formC, Bool.and_eq_true] at h; exact ⟨formB_neat o k.1 h.1.1, h1 k.2.1 h.1.2, h2 k.2.2 h.2⟩
  | odd v => cases h
/-- What write.Obs answers: the text, and the error. -/
def wText (o : O) : ByteArray := if chk o = 0 then (if 1000 < (textO o).size then ⟨#[]⟩ else textO o) else ⟨#[]⟩
def wErr (o : O) : Int := if chk o = 0 then (if 1000 < (textO o).size then 5 else 0) else chk o
def wTextC (c : C) : ByteArray := if chkC c = 0 then (if 1000 < (textC c).size then ⟨#[]⟩ else textC c) else ⟨#[]⟩
def wErrC (c : C) : Int := if chkC c = 0 then (if 1000 < (textC c).size then 5 else 0) else chkC c
theorem chk_zero {o : O} (h : chk o = 0) : formB o = true ∧ o.nodes ≤ 60 ∧ o.depth ≤ 12 := by
  unfold chk at h
  split at h
  · rename_i hf
    split at h
    · cases h
    · exact ⟨hf, by omega, by omega⟩
  · cases h
theorem chkC_zero {c : C} (h : chkC c = 0) : formC c = true ∧ c.nodes ≤ 60 ∧ c.depth ≤ 12 ∧ twice c.labels = false := by
  unfold chkC at h
  split at h
  · rename_i hf
    split at h
    · cases h
    · split at h
      · cases h
      · rename_i ht
        exact ⟨hf, by omega, by omega, by simpa using ht⟩
  · cases h
set_option maxHeartbeats 1000000 in
set_option maxRecDepth 100000 in
theorem writeO_any (o : O) (hok : o.Ok) (hsz : o.nodes ≤ 1000000) (w : World) (ht : TabW w) : Calls Tryz.prog 11 #[o.val] w fun e w' => e = .returned (.tuple #[.string (wText o), .int .i64 (wErr o)]) ∧ Below w.heap.size w w' := by
  have HW : Hid (chk o = 0 → Writes o ∧ (textO o).size ≤ 70368744177664) := fun h => by
    have hz := chk_zero h
    have hn := formB_neat o hok hz.1
    exact ⟨obsText_any _ o hok hn (by omega), Nat.le_trans (textO_size _ o hn) (by omega)⟩
  have HT := hidIn ht
  have HR : Hid (wText o = if chk o = 0 then (if 1000 < (textO o).size then ⟨#[]⟩ else textO o) else ⟨#[]⟩) := rfl
  have HE : Hid (wErr o = if chk o = 0 then (if 1000 < (textO o).size then 5 else 0) else chk o) := rfl
  have HK := hidIn (check_any o hok hsz)
  generalize wText o = rt at *
  generalize wErr o = re at *
  clear hok hsz ht
  go_enter Tryz.func11, Tryz.ntmps11
  go_wp2_with fail
  refine (HK.out w).mono ?_
  rintro e w1 ⟨rfl, hb1⟩
  have HB1 := hidIn hb1
  clear hb1
  by_cases h0 : chk o = 0
  · obtain ⟨hw, hs⟩ := HW.out h0
    have HW1 := hidIn hw
    clear hw
    rw [h0]
    go_wp2_with fail
    refine (HW1.out w1 (tabW_below HT.out HB1.out)).mono ?_
    rintro e w2 ⟨rfl, hb2⟩
    have HB2 := hidIn (HB1.out.trans (hb2.mono HB1.out.size))
    clear hb2
    go_wp2_with fail
    refine calls_same (withinT_any (textO o) (by omega) _) ?_
    have H1 := HR.out
    have H2 := HE.out
    rw [if_pos h0] at H1 H2
    rw [← H1, ← H2]
    clear H1 H2
    go_wp2_with fail
    go_ret2
    exact ⟨rfl, HB2.out⟩
  · obtain ⟨n, hn⟩ : ∃ n, chk o = n := ⟨_, rfl⟩
    have H1 := HR.out
    have H2 := HE.out
    rw [if_neg h0] at H1 H2
    rw [hn] at h0 H2
    rw [hn]
    go_wp2_with fail
    go_ret2
    exact ⟨by rw [H1, H2]; rfl, HB1.out⟩
set_option maxHeartbeats 1000000 in
set_option maxRecDepth 100000 in
theorem writeC_any (c : C) (hok : c.Ok) (hsz : c.weight ≤ 1000000) (w : World) (ht : TabW w) : Calls Tryz.prog 7 #[c.val] w fun e w' => e = .returned (.tuple #[.string (wTextC c), .int .i64 (wErrC c)]) ∧ Below w.heap.size w w' := by
  have HW : Hid (chkC c = 0 → WritesC c ∧ (textC c).size ≤ 70368744177664) := fun h => by
    have hz := chkC_zero h
    have hn := formC_neat c hok hz.1
    exact ⟨termText_any _ c hok hn (by omega), Nat.le_trans (textC_size _ c hn) (by omega)⟩
  have HT := hidIn ht
  have HR : Hid (wTextC c = if chkC c = 0 then (if 1000 < (textC c).size then ⟨#[]⟩ else textC c) else ⟨#[]⟩) := rfl
  have HE : Hid (wErrC c = if chkC c = 0 then (if 1000 < (textC c).size then 5 else 0) else chkC c) := rfl
  have HK := hidIn (checkT_any c hok hsz)
  generalize wTextC c = rt at *
  generalize wErrC c = re at *
  clear hok hsz ht
  go_enter Tryz.func7, Tryz.ntmps7
  go_wp2_with fail
  refine (HK.out w).mono ?_
  rintro e w1 ⟨rfl, hb1⟩
  have HB1 := hidIn hb1
  clear hb1
  by_cases h0 : chkC c = 0
  · obtain ⟨hw, hs⟩ := HW.out h0
    have HW1 := hidIn hw
    clear hw
    rw [h0]
    go_wp2_with fail
    refine (HW1.out w1 (tabW_below HT.out HB1.out)).mono ?_
    rintro e w2 ⟨rfl, hb2⟩
    have HB2 := hidIn (HB1.out.trans (hb2.mono HB1.out.size))
    clear hb2
    go_wp2_with fail
    refine calls_same (withinT_any (textC c) (by omega) _) ?_
    have H1 := HR.out
    have H2 := HE.out
    rw [if_pos h0] at H1 H2
    rw [← H1, ← H2]
    clear H1 H2
    go_wp2_with fail
    go_ret2
    exact ⟨rfl, HB2.out⟩
  · obtain ⟨n, hn⟩ : ∃ n, chkC c = n := ⟨_, rfl⟩
    have H1 := HR.out
    have H2 := HE.out
    rw [if_neg h0] at H1 H2
    rw [hn] at h0 H2
    rw [hn]
    go_wp2_with fail
    go_ret2
    exact ⟨by rw [H1, H2]; rfl, HB1.out⟩

end Go.Proofs.YtfmjjfpajohihaaGreatDoor
namespace Go.Proofs.YtfmjjfpajohihaaGreatDoor
open Go.RowKit
set_option linter.unusedVariables false

def sameC : C → C → Bool
  | .zero, .zero => true
  | .one s, .one t => decide (s = t)
  | .give a, .give b => sameC a b
  | .and l r, .and x y => sameC l x && sameC r y
  | .or s l r, .or t x y => decide (s = t) && (sameC l x && sameC r y)
  | .scale o a, .scale p b => sameO o p && sameC a b
  | .when d a, .when e b => decide (d = e) && sameC a b
  | .iff o l r, .iff p x y => sameO o p && (sameC l x && sameC r y)
  | _, _ => false
def sameCL : List C → List C → Bool
  | a :: l, b :: m => sameC a b && sameCL l m
  | _, _ => true
theorem sameC_head (a b : C) (h : ¬ (a.kind = b.kind ∧ a.text = b.text ∧ a.day = b.day)) : sameC a b = false := by
  cases a <;> cases b <;> simp [sameC, C.kind, C.text, C.day] at h ⊢ <;> simp [h]
theorem sameC_none (a b : C) (h : a.kind = 0) : sameC a b = false := by
  cases a <;> simp [C.kind] at h
  cases b <;> rfl
theorem sameC_kids (a b : C) (h0 : a.kind ≠ 0) (h : a.kind = b.kind ∧ a.text = b.text ∧ a.day = b.day) : a.nums.length = b.nums.length ∧ a.kids.length = b.kids.length ∧ sameC a b = (sameL a.nums b.nums && sameCL a.kids b.kids) := by
  cases a <;> cases b <;> simp [sameC, sameL, sameCL, C.kids, C.nums, C.kind, C.text, C.day] at h h0 ⊢ <;> simp [h]
theorem sameCL_take (l m : List C) (i : Nat) (a b : C) (h1 : l[i]? = some a) (h2 : m[i]? = some b) : sameCL (l.take (i + 1)) (m.take (i + 1)) = (sameCL (l.take i) (m.take i) && sameC a b) := by
  induction l generalizing m i with
  | nil => simp at h1
  | cons x l ih =>
    cases m with
    | nil => simp at h2
    | cons y m =>
      cases i with
      | zero => simp at h1 h2; subst h1 h2; simp [sameCL]
      | succ i =>
        simp at h1 h2
        simp only [List.take_succ_cons, sameCL]
        rw [ih m i h1 h2, Bool.and_assoc]
theorem sameCL_no (l m : List C) (i : Nat) (a b : C) (h1 : l[i]? = some a) (h2 : m[i]? = some b) (h : sameC a b = false) : sameCL l m = false := by
  induction l generalizing m i with
  | nil => simp at h1
  | cons x l ih =>
    cases m with
    | nil => simp at h2
    | cons y m =>
      cases i with
      | zero => simp at h1 h2; subst h1 h2; simp [sameCL, h]
      | succ i =>
        simp at h1 h2
        simp [sameCL, ih m i h1 h2]
set_option maxHeartbeats 4000000 in
set_option maxRecDepth 100000 in
theorem sameT_any (a : C) : a.Ok → ∀ b : C, b.Ok → ∀ w : World, Calls Tryz.prog 8 #[a.val, b.val] w fun e w' => e = .returned (.bool (sameC a b)) ∧ Below w.heap.size w w' := by
  induction a using C.ind with
  | _ a ih =>
  intro hok b hokb w
  have HIH : Hid (∀ k ∈ a.kids, ∀ b : C, b.Ok → ∀ w : World, Calls Tryz.prog 8 #[k.val, b.val] w fun e w' => e = .returned (.bool (sameC k b)) ∧ Below w.heap.size w w') :=
    fun k hk => ih k hk (hok.kid hk)
  clear ih
  have h2 := a.kids_two
  have h1n := a.nums_one
  have HOB : Hid b.Ok := hokb
  have HOA : Hid a.Ok := hok
  go_enter Tryz.func8, Tryz.ntmps8
  go_wp2_with fail
  refine (openT_any a w hok).mono ?_
  rintro e w1 ⟨xa, xb, rfl, hn, hk, hna, hnb, hb1⟩
  have HN : Hid (HasObs w1 xa a.nums) := hn
  have HK : Hid (HasTerm w1 xb a.kids) := hk
  have HB1 : Hid (Below w.heap.size w w1) := hb1
  clear hn hk hok hb1 hna hnb
  unfold headT
  go_wp2_with fail
  refine (openT_any b _ hokb).mono ?_
  rintro e w2 ⟨ya, yb, rfl, hn, hk, hna, hnb, hb2⟩
  have HB2 : Hid (Below w1.heap.size w1 w2) := (below_alloc (Below.refl w1.heap.size w1) _).trans (hb2.mono (by simp))
  have HN2 : Hid (HasObs w2 ya b.nums) := hn
  have HK2 : Hid (HasTerm w2 yb b.kids) := hk
  have hbk : w2.heap[w1.heap.size]? = some (.cells #[.int .i64 a.kind, .string a.text, .int .i64 a.day] 61 (0, 0)) := (hb2.block _ (by simp)).trans (heap_alloc_new _ _)
  have hbk2 : (w2.alloc (.cells #[.int .i64 b.kind, .string b.text, .int .i64 b.day] 61)).heap[w1.heap.size]? = some (.cells #[.int .i64 a.kind, .string a.text, .int .i64 a.day] 61 (0, 0)) := heap_keeps hbk _
  have g0 := cell_of_row _ _ 0 _ _ _ hbk2
  have g1 := cell_of_row _ _ 1 _ _ _ hbk2
  have g2 := cell_of_row _ _ 2 _ _ _ hbk2
  rw [show (#[.int .i64 a.kind, .string a.text, .int .i64 a.day] : Array Value)[0]? = some (.int .i64 a.kind) from rfl] at g0
  rw [show (#[.int .i64 a.kind, .string a.text, .int .i64 a.day] : Array Value)[1]? = some (.string a.text) from rfl] at g1
  rw [show (#[.int .i64 a.kind, .string a.text, .int .i64 a.day] : Array Value)[2]? = some (.int .i64 a.day) from rfl] at g2
  clear hn hk hokb hb2 hbk hbk2 hna hnb
  unfold headT
  have HBW : Hid (∀ o, Below w.heap.size w (w2.alloc o)) := fun o => by
    have h := HB1.out.trans (HB2.out.mono HB1.out.size)
    exact h.alloc h.size o
  by_cases h0 : a.kind = 0
  · have HS : Hid (sameC a b = false) := sameC_none a b h0
    go_wp2_with fail
    go_ret
    exact ⟨by rw [HS.out]; rfl, HBW.out _⟩
  · have h0' : (a.kind == 0) = false := by simpa using h0
    by_cases hh : a.kind = b.kind ∧ a.text = b.text ∧ a.day = b.day
    · obtain ⟨hlen1, hlen, hsame⟩ := sameC_kids a b h0 hh
      have HS : Hid (sameC a b = (sameL a.nums b.nums && sameCL a.kids b.kids)) := hsame
      have HL : Hid (a.kids.length = b.kids.length) := hlen
      have HL1 : Hid (a.nums.length = b.nums.length) := hlen1
      obtain ⟨e1, e2, e3⟩ := hh
      have hlb : b.kids.length ≤ 2 := by omega
      have hlb1 : b.nums.length ≤ 1 := by omega
      have h0b : (b.kind == 0) = false := by rw [← e1]; exact h0'
      clear hsame hlen hlen1
      go_wp2_with fail
      go_loopw [37] (fun s37 wr => ∃ i : Nat, i ≤ a.nums.length ∧ s37 = .int .i64 i ∧ Hid (sameL (a.nums.take i) (b.nums.take i) = true) ∧ Below w2.heap.size w2 wr) (fun s37 _ => a.nums.length - (intOf s37).toNat)
      case atStart => exact ⟨0, by omega, rfl, rfl, below_alloc (Below.refl _ _) _⟩
      case round =>
        clear g0 g1 g2
        obtain ⟨i, hi, rfl, HA, hbr⟩ := hrel
        have HB3 : Hid (Below w.heap.size w wr) := by
          have h := HB1.out.trans (HB2.out.mono HB1.out.size)
          exact h.trans (hbr.mono h.size)
        by_cases hlt : i < a.nums.length
        · have hlt' : (i : Int) < (a.nums.length : Int) := by omega
          have hltb : i < b.nums.length := by have := HL1.out; omega
          have hltb' : (i : Int) < (b.nums.length : Int) := by omega
          obtain ⟨k, hki⟩ : ∃ k, a.nums[i]? = some k := ⟨_, List.getElem?_eq_getElem hlt⟩
          obtain ⟨m, hmi⟩ : ∃ m, b.nums[i]? = some m := ⟨_, List.getElem?_eq_getElem hltb⟩
          obtain ⟨p, rfl, hc⟩ := ((HN.out.below HB2.out).below hbr) i k hki
          obtain ⟨q, rfl, hcm⟩ := (HN2.out.below hbr) i m hmi
          have HOK : Hid k.Ok := HOA.out.num (List.mem_of_getElem? hki)
          have HOM : Hid m.Ok := HOB.out.num (List.mem_of_getElem? hmi)
          have HT : Hid (sameL (a.nums.take (i + 1)) (b.nums.take (i + 1)) = (sameL (a.nums.take i) (b.nums.take i) && sameO k m)) := sameL_take _ _ _ _ _ hki hmi
          have HNO : Hid (sameO k m = false → sameL a.nums b.nums = false) := sameL_no _ _ _ _ _ hki hmi
          clear hki hmi
          go_wp2_with fail
          refine (same_any k HOK.out m HOM.out wr).mono ?_
          rintro e w3 ⟨rfl, hb3⟩
          have HB4 : Hid (Below w2.heap.size w2 w3) := hbr.trans (hb3.mono hbr.size)
          have HB5 : Hid (Below w.heap.size w w3) := HB3.out.trans (hb3.mono HB3.out.size)
          clear hb3 hbr hc hcm
          cases hf : sameO k m
          · go_wp2_with fail
            go_ret
            exact ⟨ret_bool (by rw [HS.out, HNO.out hf, Bool.false_and]), HB5.out⟩
          · go_wp2_with fail
            go_roundw
            case rel => exact ⟨i + 1, by omega, by go_num, by unfold Hid; rw [HT.out, HA.out, hf]; rfl, HB4.out⟩
            case measure => simp [intOf]; omega
        · have hle : i = a.nums.length := by omega
          subst hle
          have HA1 : Hid (sameL a.nums b.nums = true) := by
            have h := HA.out
            rw [List.take_length, HL1.out, List.take_length] at h
            exact h
          clear HA hlt
          obtain ⟨wA, hwA⟩ : ∃ y, y = wr := ⟨_, rfl⟩
          subst hwA
          have HBA : Hid (Below w2.heap.size w2 wA) := hbr
          clear hbr HB3
          go_wp2_with fail
          go_loopw [52] (fun s52 wr => ∃ i : Nat, i ≤ a.kids.length ∧ s52 = .int .i64 i ∧ Hid (sameCL (a.kids.take i) (b.kids.take i) = true) ∧ Below w2.heap.size w2 wr) (fun s52 _ => a.kids.length - (intOf s52).toNat)
          case atStart => exact ⟨0, by omega, rfl, rfl, HBA.out⟩
          case round =>
            obtain ⟨i, hi, rfl, HA, hbr⟩ := hrel
            have HB3 : Hid (Below w.heap.size w wr) := by
              have h := HB1.out.trans (HB2.out.mono HB1.out.size)
              exact h.trans (hbr.mono h.size)
            by_cases hlt : i < a.kids.length
            · have hlt' : (i : Int) < (a.kids.length : Int) := by omega
              have hltb : i < b.kids.length := by have := HL.out; omega
              have hltb' : (i : Int) < (b.kids.length : Int) := by omega
              obtain ⟨k, hki⟩ : ∃ k, a.kids[i]? = some k := ⟨_, List.getElem?_eq_getElem hlt⟩
              obtain ⟨m, hmi⟩ : ∃ m, b.kids[i]? = some m := ⟨_, List.getElem?_eq_getElem hltb⟩
              obtain ⟨p, rfl, hc⟩ := ((HK.out.below HB2.out).below hbr) i k hki
              obtain ⟨q, rfl, hcm⟩ := (HK2.out.below hbr) i m hmi
              have HM : Hid (k ∈ a.kids) := List.mem_of_getElem? hki
              have HOM : Hid m.Ok := HOB.out.kid (List.mem_of_getElem? hmi)
              have HT : Hid (sameCL (a.kids.take (i + 1)) (b.kids.take (i + 1)) = (sameCL (a.kids.take i) (b.kids.take i) && sameC k m)) := sameCL_take _ _ _ _ _ hki hmi
              have HNO : Hid (sameC k m = false → sameCL a.kids b.kids = false) := sameCL_no _ _ _ _ _ hki hmi
              clear hki hmi
              go_wp2_with fail
              refine (HIH.out k HM.out m HOM.out wr).mono ?_
              rintro e w3 ⟨rfl, hb3⟩
              have HB4 : Hid (Below w2.heap.size w2 w3) := hbr.trans (hb3.mono hbr.size)
              have HB5 : Hid (Below w.heap.size w w3) := HB3.out.trans (hb3.mono HB3.out.size)
              clear hb3 hbr hc hcm
              cases hf : sameC k m
              · go_wp2_with fail
                go_ret
                exact ⟨ret_bool (by rw [HS.out, HNO.out hf, Bool.and_false]), HB5.out⟩
              · go_wp2_with fail
                go_roundw
                case rel => exact ⟨i + 1, by omega, by go_num, by unfold Hid; rw [HT.out, HA.out, hf]; rfl, HB4.out⟩
                case measure => simp [intOf]; omega
            · have hle : i = a.kids.length := by omega
              subst hle
              have HA2 : Hid (sameCL a.kids b.kids = true) := by
                have h := HA.out
                rw [List.take_length, HL.out, List.take_length] at h
                exact h
              clear HA
              go_wp2_with fail
              go_ret
              exact ⟨ret_bool (by rw [HS.out, HA1.out, HA2.out]; rfl), HB3.out⟩
    · have HS : Hid (sameC a b = false) := sameC_head a b hh
      by_cases e1 : a.kind = b.kind
      · have h0b : (b.kind == 0) = false := by rw [← e1]; exact h0'
        by_cases e2 : a.text = b.text
        · have e3 : ¬ a.day = b.day := fun e3 => hh ⟨e1, e2, e3⟩
          clear hh
          go_wp2_with fail
          go_ret
          exact ⟨ret_bool (by rw [HS.out]), HBW.out _⟩
        · have e2' : ¬ a.text.toList = b.text.toList := fun e => e2 (toList_inj e)
          clear hh
          go_wp2_with fail
          go_ret
          exact ⟨ret_bool (by rw [HS.out]), HBW.out _⟩
      · clear hh
        go_wp2_with fail
        go_ret
        exact ⟨ret_bool (by rw [HS.out]), HBW.out _⟩

end Go.Proofs.YtfmjjfpajohihaaGreatDoor
namespace Go.Proofs.YtfmjjfpajohihaaGreatDoor
open Go.RowKit
set_option linter.unusedVariables false

/-- A byte by which a word ends. -/
def dl (b : UInt8) : Bool := b == 40 || b == 41 || b == 44
def noDl (l : List UInt8) : Prop := ∀ b ∈ l, dl b = false
def endsW (l : List UInt8) : Prop := l = [] ∨ ∃ b r, l = b :: r ∧ dl b = true
theorem word_split {u v X Y : List UInt8} (hu : noDl u) (hv : noDl v) (hX : endsW X) (hY : endsW Y) (h : u ++ X = v ++ Y) : u = v ∧ X = Y := by
  induction u generalizing v with
  | nil =>
    cases v with
    | nil => exact ⟨rfl, h⟩
    | cons b v =>
      exfalso
      have hb := hv b (by simp)
      rcases hX with rfl | ⟨c, r, rfl, hc⟩
      · simp at h
      · simp at h; rw [h.1] at hc; rw [hc] at hb; cases hb
  | cons a u ih =>
    cases v with
    | nil =>
      exfalso
      have hb := hu a (by simp)
      rcases hY with rfl | ⟨c, r, rfl, hc⟩
      · simp at h
      · simp at h; rw [← h.1] at hc; rw [hc] at hb; cases hb
    | cons b v =>
      simp at h
      obtain ⟨rfl, h⟩ := h
      obtain ⟨rfl, rfl⟩ := ih (fun x hx => hu x (by simp [hx])) (fun x hx => hv x (by simp [hx])) h
      exact ⟨rfl, rfl⟩
theorem ends_cons (b : UInt8) (r : List UInt8) (h : dl b = true) : endsW (b :: r) := .inr ⟨b, r, rfl, h⟩
theorem baExt {a b : ByteArray} (h : a.data.toList = b.data.toList) : a = b := by
  cases a with | mk a => cases b with | mk b => simp only [ByteArray.mk.injEq]; exact Array.toList_inj.1 h
theorem decode_cont (s : ByteArray) (i k : Nat) (h1 : 1 ≤ k) (h2 : k < (Utf8.decode s i).2) : 128 ≤ (s.get! (i + k)).toNat := by
  unfold Utf8.decode at h2
  simp only [] at h2
  split at h2
  · simp at h2; omega
  · split at h2
    · rename_i hc
      simp only [Bool.and_eq_true, decide_eq_true_eq, beq_iff_eq] at hc
      split at h2
      · simp at h2; obtain rfl : k = 1 := by omega
        omega
      · simp at h2; omega
    · split at h2
      · rename_i hc
        simp only [Bool.and_eq_true, decide_eq_true_eq, beq_iff_eq] at hc
        split at h2
        · simp at h2; rcases (show k = 1 ∨ k = 2 by omega) with rfl | rfl <;> omega
        · simp at h2; omega
      · split at h2
        · rename_i hc
          simp only [Bool.and_eq_true, decide_eq_true_eq, beq_iff_eq] at hc
          split at h2
          · simp at h2; rcases (show k = 1 ∨ k = 2 ∨ k = 3 by omega) with rfl | rfl | rfl <;> omega
          · simp at h2; omega
        · simp at h2; omega
theorem decode_ascii (s : ByteArray) (i : Nat) (h : (s.get! i).toNat < 128) : Utf8.decode s i = ((s.get! i).toNat, 1) := by
  unfold Utf8.decode
  simp only [Nat.add_zero]
  rw [if_pos h]
/-- A byte below 128 is a rune of the text. -/
theorem ascii_in (s : ByteArray) (j : Nat) (hj : j < s.size) (h : (s.get! j).toNat < 128) : ∀ d pos, j = pos + d → ((s.get! j).toNat : Int) ∈ rest s pos := by
  intro d
  induction d using Nat.strongRecOn with
  | _ d ih =>
    intro pos hd
    rw [rest_step s pos (by omega)]
    by_cases h0 : d = 0
    · subst h0
      obtain rfl : pos = j := by omega
      rw [decode_ascii s pos h]
      exact List.mem_cons_self
    · by_cases hw : d < (Utf8.decode s pos).2
      · have := decode_cont s pos d (by omega) hw
        rw [← hd] at this
        omega
      · have h1 := width_pos s pos (by omega)
        exact List.mem_cons_of_mem _ (ih (d - (Utf8.decode s pos).2) (by omega) _ (by omega))
theorem nameGo_let (c : Nat) (rs : List Int) (h : nameGo c rs = true) : ∀ r ∈ rs, letB r = true := by
  induction rs generalizing c with
  | nil => intro r hr; cases hr
  | cons a rs ih =>
    intro r hr
    have hno : (!letB a || ((c == 0) && digB a) || (c == 12)) = false := by
      cases hx : (!letB a || ((c == 0) && digB a) || (c == 12)) with
      | false => rfl
      | true => rw [nameGo_no c a rs hx] at h; cases h
    simp only [Bool.or_eq_false_iff] at hno
    rw [nameGo_yes c a rs (by simpa using hno.1.1) hno.1.2 hno.2] at h
    rcases List.mem_cons.1 hr with rfl | hr
    · simpa using hno.1.1
    · exact ih (c + 1) h r hr
theorem name_noDl (s : ByteArray) (h : nameGo 0 (runesOf s) = true) : noDl s.data.toList := by
  intro b hb
  cases hd : dl b with
  | false => rfl
  | true =>
    exfalso
    obtain ⟨j, hj, hjb⟩ := List.getElem_of_mem hb
    have hjs : j < s.size := by simpa using hj
    have hg : s.get! j = b := by
      rw [← hjb]
      simp [ByteArray.get!, getElem!_def]
      rw [Array.getElem?_eq_getElem (by simpa using hjs)]
    have hbv : b = 40 ∨ b = 41 ∨ b = 44 := by simpa [dl, or_assoc] using hd
    have hlt : (s.get! j).toNat < 128 := by rw [hg]; rcases hbv with rfl | rfl | rfl <;> decide
    have hm := ascii_in s j hjs hlt j 0 (by omega)
    have hl := nameGo_let 0 _ h _ hm
    rw [hg] at hl
    rcases hbv with rfl | rfl | rfl <;> exact absurd hl (by decide)
def digOrNeg (b : UInt8) : Bool := b == 45 || (decide (48 ≤ b.toNat) && decide (b.toNat ≤ 57))
theorem dec_bytes (n : Nat) : ∀ b ∈ Lib.decDigits n, digOrNeg b = true := by
  induction n using Nat.strongRecOn with
  | _ n ih =>
    have hone : ∀ k, k < 10 → digOrNeg (UInt8.ofNat (48 + k)) = true := by decide
    intro b hb
    rw [Lib.decDigits] at hb
    by_cases h : n < 10
    · rw [dif_pos h, List.mem_singleton] at hb
      subst hb
      exact hone n h
    · rw [dif_neg h] at hb
      rcases List.mem_append.1 hb with hb | hb
      · exact ih (n / 10) (by omega) b hb
      · rw [List.mem_singleton] at hb; subst hb; exact hone (n % 10) (by omega)
theorem dec_ne (n : Nat) : Lib.decDigits n ≠ [] := by
  rw [Lib.decDigits]; split <;> simp
def valN (l : List UInt8) : Nat := l.foldl (fun a c => a * 10 + (c.toNat - 48)) 0
theorem dec_val (n : Nat) : valN (Lib.decDigits n) = n := by
  induction n using Nat.strongRecOn with
  | _ n ih =>
    have hone : ∀ k, k < 10 → (UInt8.ofNat (48 + k)).toNat - 48 = k := by decide
    rw [Lib.decDigits]
    by_cases h : n < 10
    · rw [dif_pos h]; simp only [valN, List.foldl_cons, List.foldl_nil]; rw [hone n h]; omega
    · rw [dif_neg h]
      have h2 := ih (n / 10) (by omega)
      unfold valN at h2 ⊢
      rw [List.foldl_append, h2]
      simp only [List.foldl_cons, List.foldl_nil]
      rw [hone _ (by omega)]
      omega
theorem num_list (n : Int) : (numT n).data.toList = Lib.itoa n := by simp [numT]
theorem num_bytes (n : Int) : ∀ b ∈ (numT n).data.toList, digOrNeg b = true := by
  rw [num_list]
  unfold Lib.itoa
  split
  · intro b hb
    rcases List.mem_cons.1 hb with rfl | hb
    · decide
    · exact dec_bytes _ b hb
  · exact dec_bytes _
theorem num_ne (n : Int) : (numT n).data.toList ≠ [] := by
  rw [num_list]; unfold Lib.itoa; split
  · simp
  · exact dec_ne _
theorem num_noDl (n : Int) : noDl (numT n).data.toList := by
  intro b hb
  have h := num_bytes n b hb
  cases hd : dl b with
  | false => rfl
  | true =>
    have hbv : b = 40 ∨ b = 41 ∨ b = 44 := by simpa [dl, or_assoc] using hd
    rcases hbv with rfl | rfl | rfl <;> exact absurd h (by decide)
theorem num_inj {n m : Int} (h : (numT n).data.toList = (numT m).data.toList) : n = m := by
  rw [num_list, num_list] at h
  unfold Lib.itoa at h
  have h45 : ∀ k, ∀ t : List UInt8, 45 :: t ≠ Lib.decDigits k := by
    intro k t e
    rw [Lib.decDigits] at e
    have hone : ∀ k, k < 10 → (UInt8.ofNat (48 + k)) ≠ 45 := by decide
    have hhead : ∀ k, (Lib.decDigits k).head? ≠ some 45 := by
      intro k
      induction k using Nat.strongRecOn with
      | _ k ih =>
        rw [Lib.decDigits]
        by_cases h : k < 10
        · rw [dif_pos h]; simp only [List.head?_cons, ne_eq, Option.some.injEq]; exact hone k h
        · rw [dif_neg h, List.head?_append]
          have := ih (k / 10) (by omega)
          have hne := dec_ne (k / 10)
          cases hq : Lib.decDigits (k / 10) with
          | nil => exact absurd hq hne
          | cons a l => rw [hq] at this; simpa using this
    rw [← Lib.decDigits] at e
    have := hhead k
    rw [← e] at this
    simp at this
  split at h <;> split at h
  · simp at h; have := congrArg valN h; rw [dec_val, dec_val] at this; omega
  · exact absurd h (h45 _ _)
  · exact absurd h.symm (h45 _ _)
  · have := congrArg valN h; rw [dec_val, dec_val] at this; omega
theorem joinL_1 (w a : ByteArray) : (joinT w [a]).data.toList = w.data.toList ++ 40 :: (a.data.toList ++ [41]) := by
  unfold joinT; simp [Lib.join_one]
theorem joinL_2 (w a b : ByteArray) : (joinT w [a, b]).data.toList = w.data.toList ++ 40 :: (a.data.toList ++ 44 :: (b.data.toList ++ [41])) := by
  unfold joinT; simp [Lib.join_cons, Lib.joinTail]
theorem joinL_3 (w a b c : ByteArray) : (joinT w [a, b, c]).data.toList = w.data.toList ++ 40 :: (a.data.toList ++ 44 :: (b.data.toList ++ 44 :: (c.data.toList ++ [41]))) := by
  unfold joinT; simp [Lib.join_cons, Lib.joinTail]
/-- The word by which a text begins, and what follows. -/
def beginsW (l : List UInt8) (u r : List UInt8) : Prop := l = u ++ r ∧ noDl u ∧ endsW r
theorem begin_app {l u r X : List UInt8} (h : beginsW l u r) (hX : endsW X) : beginsW (l ++ X) u (r ++ X) := by
  obtain ⟨rfl, h1, h2⟩ := h
  refine ⟨by simp, h1, ?_⟩
  rcases h2 with rfl | ⟨b, r, rfl, hb⟩
  · simpa using hX
  · exact .inr ⟨b, r ++ X, rfl, hb⟩
theorem begin_eq {l u r v q : List UInt8} (h1 : beginsW l u r) (h2 : beginsW l v q) : u = v ∧ r = q :=
  word_split h1.2.1 h2.2.1 h1.2.2 h2.2.2 (h1.1.symm.trans h2.1)

theorem lit_noDl (l : List UInt8) (h : l.all (fun b => !dl b) = true) : noDl l := by
  intro b hb
  have := List.all_eq_true.1 h b hb
  simpa using this
theorem num_not (n : Int) (u : List UInt8) (h : u.all digOrNeg = false) : (numT n).data.toList ≠ u := by
  intro e
  have : u.all digOrNeg = true := by rw [← e]; exact List.all_eq_true.2 (num_bytes n)
  rw [this] at h
  cases h

theorem uniqO (a : O) : ∀ (b : O) (X Y : List UInt8), formB a = true → formB b = true → endsW X → endsW Y → (textO a).data.toList ++ X = (textO b).data.toList ++ Y → a = b ∧ X = Y := by
  have hdl41 : dl 41 = true := rfl
  have hdl44 : dl 44 = true := rfl
  induction a with
  | const n =>
    intro b X Y fa fb hX hY h
    cases b with
    | const n' =>
      simp only [textO] at h
      obtain ⟨e, rfl⟩ := word_split (num_noDl n) (num_noDl n') hX hY h
      exact ⟨by rw [num_inj e], rfl⟩
    | fix s' =>
      exfalso
      simp only [textO, joinL_1, List.append_assoc, List.cons_append] at h
      have e := (word_split (num_noDl _) (lit_noDl [102, 105, 120] rfl) hX (ends_cons 40 _ rfl) h).1
      exact num_not _ [102, 105, 120] rfl e
    | add l' r' =>
      exfalso
      simp only [textO, joinL_2, List.append_assoc, List.cons_append] at h
      have e := (word_split (num_noDl _) (lit_noDl [97, 100, 100] rfl) hX (ends_cons 40 _ rfl) h).1
      exact num_not _ [97, 100, 100] rfl e
    | neg o' =>
      exfalso
      simp only [textO, joinL_1, List.append_assoc, List.cons_append] at h
      have e := (word_split (num_noDl _) (lit_noDl [110, 101, 103] rfl) hX (ends_cons 40 _ rfl) h).1
      exact num_not _ [110, 101, 103] rfl e
    | mul l' r' =>
      exfalso
      simp only [textO, joinL_2, List.append_assoc, List.cons_append] at h
      have e := (word_split (num_noDl _) (lit_noDl [109, 117, 108] rfl) hX (ends_cons 40 _ rfl) h).1
      exact num_not _ [109, 117, 108] rfl e
    | max l' r' =>
      exfalso
      simp only [textO, joinL_2, List.append_assoc, List.cons_append] at h
      have e := (word_split (num_noDl _) (lit_noDl [109, 97, 120] rfl) hX (ends_cons 40 _ rfl) h).1
      exact num_not _ [109, 97, 120] rfl e
    | odd v => cases fb
  | fix s =>
    intro b X Y fa fb hX hY h
    cases b with
    | const n' =>
      exfalso
      simp only [textO, joinL_1, List.append_assoc, List.cons_append] at h
      have e := (word_split (lit_noDl [102, 105, 120] rfl) (num_noDl _) (ends_cons 40 _ rfl) hY h).1
      exact num_not _ [102, 105, 120] rfl e.symm
    | fix s' =>
      simp only [textO, joinL_1, List.append_assoc, List.cons_append, List.nil_append, List.cons.injEq, true_and] at h
      obtain ⟨e, h⟩ := word_split (name_noDl s fa) (name_noDl s' fb) (ends_cons _ _ hdl41) (ends_cons _ _ hdl41) h
      simp only [List.cons.injEq, true_and] at h
      exact ⟨by rw [baExt e], h⟩
    | add l' r' =>
      exfalso
      simp only [textO, joinL_1, joinL_2, List.append_assoc, List.cons_append] at h
      have e := (word_split (lit_noDl [102, 105, 120] rfl) (lit_noDl [97, 100, 100] rfl) (ends_cons 40 _ rfl) (ends_cons 40 _ rfl) h).1
      exact absurd e (by decide)
    | neg o' =>
      exfalso
      simp only [textO, joinL_1, List.append_assoc, List.cons_append] at h
      have e := (word_split (lit_noDl [102, 105, 120] rfl) (lit_noDl [110, 101, 103] rfl) (ends_cons 40 _ rfl) (ends_cons 40 _ rfl) h).1
      exact absurd e (by decide)
    | mul l' r' =>
      exfalso
      simp only [textO, joinL_1, joinL_2, List.append_assoc, List.cons_append] at h
      have e := (word_split (lit_noDl [102, 105, 120] rfl) (lit_noDl [109, 117, 108] rfl) (ends_cons 40 _ rfl) (ends_cons 40 _ rfl) h).1
      exact absurd e (by decide)
    | max l' r' =>
      exfalso
      simp only [textO, joinL_1, joinL_2, List.append_assoc, List.cons_append] at h
      have e := (word_split (lit_noDl [102, 105, 120] rfl) (lit_noDl [109, 97, 120] rfl) (ends_cons 40 _ rfl) (ends_cons 40 _ rfl) h).1
      exact absurd e (by decide)
    | odd v => cases fb
  | add l r h1 h2 =>
    intro b X Y fa fb hX hY h
    cases b with
    | const n' =>
      exfalso
      simp only [textO, joinL_2, List.append_assoc, List.cons_append] at h
      have e := (word_split (lit_noDl [97, 100, 100] rfl) (num_noDl _) (ends_cons 40 _ rfl) hY h).1
      exact num_not _ [97, 100, 100] rfl e.symm
    | fix s' =>
      exfalso
      simp only [textO, joinL_1, joinL_2, List.append_assoc, List.cons_append] at h
      have e := (word_split (lit_noDl [97, 100, 100] rfl) (lit_noDl [102, 105, 120] rfl) (ends_cons 40 _ rfl) (ends_cons 40 _ rfl) h).1
      exact absurd e (by decide)
    | add l' r' =>
      simp only [formB, Bool.and_eq_true] at fa fb
      simp only [textO, joinL_2, List.append_assoc, List.cons_append, List.nil_append, List.cons.injEq, true_and] at h
      obtain ⟨e, h⟩ := h1 l' _ _ fa.1 fb.1 (ends_cons _ _ hdl44) (ends_cons _ _ hdl44) h
      simp only [List.cons.injEq, true_and] at h
      obtain ⟨e2, h⟩ := h2 r' _ _ fa.2 fb.2 (ends_cons _ _ hdl41) (ends_cons _ _ hdl41) h
      simp only [List.cons.injEq, true_and] at h
      exact ⟨by rw [e, e2], h⟩
    | neg o' =>
      exfalso
      simp only [textO, joinL_1, joinL_2, List.append_assoc, List.cons_append] at h
      have e := (word_split (lit_noDl [97, 100, 100] rfl) (lit_noDl [110, 101, 103] rfl) (ends_cons 40 _ rfl) (ends_cons 40 _ rfl) h).1
      exact absurd e (by decide)
    | mul l' r' =>
      exfalso
      simp only [textO, joinL_2, List.append_assoc, List.cons_append] at h
      have e := (word_split (lit_noDl [97, 100, 100] rfl) (lit_noDl [109, 117, 108] rfl) (ends_cons 40 _ rfl) (ends_cons 40 _ rfl) h).1
      exact absurd e (by decide)
    | max l' r' =>
      exfalso
      simp only [textO, joinL_2, List.append_assoc, List.cons_append] at h
      have e := (word_split (lit_noDl [97, 100, 100] rfl) (lit_noDl [109, 97, 120] rfl) (ends_cons 40 _ rfl) (ends_cons 40 _ rfl) h).1
      exact absurd e (by decide)
    | odd v => cases fb
  | neg o h1 =>
    intro b X Y fa fb hX hY h
    cases b with
    | const n' =>
      exfalso
      simp only [textO, joinL_1, List.append_assoc, List.cons_append] at h
      have e := (word_split (lit_noDl [110, 101, 103] rfl) (num_noDl _) (ends_cons 40 _ rfl) hY h).1
      exact num_not _ [110, 101, 103] rfl e.symm
    | fix s' =>
      exfalso
      simp only [textO, joinL_1, List.append_assoc, List.cons_append] at h
      have e := (word_split (lit_noDl [110, 101, 103] rfl) (lit_noDl [102, 105, 120] rfl) (ends_cons 40 _ rfl) (ends_cons 40 _ rfl) h).1
      exact absurd e (by decide)
    | add l' r' =>
      exfalso
      simp only [textO, joinL_1, joinL_2, List.append_assoc, List.cons_append] at h
      have e := (word_split (lit_noDl [110, 101, 103] rfl) (lit_noDl [97, 100, 100] rfl) (ends_cons 40 _ rfl) (ends_cons 40 _ rfl) h).1
      exact absurd e (by decide)
    | neg o' =>
      simp only [textO, joinL_1, List.append_assoc, List.cons_append, List.nil_append, List.cons.injEq, true_and] at h
      obtain ⟨e, h⟩ := h1 o' _ _ fa fb (ends_cons _ _ hdl41) (ends_cons _ _ hdl41) h
      simp only [List.cons.injEq, true_and] at h
      exact ⟨by rw [e], h⟩
    | mul l' r' =>
      exfalso
      simp only [textO, joinL_1, joinL_2, List.append_assoc, List.cons_append] at h
      have e := (word_split (lit_noDl [110, 101, 103] rfl) (lit_noDl [109, 117, 108] rfl) (ends_cons 40 _ rfl) (ends_cons 40 _ rfl) h).1
      exact absurd e (by decide)
    | max l' r' =>
      exfalso
      simp only [textO, joinL_1, joinL_2, List.append_assoc, List.cons_append] at h
      have e := (word_split (lit_noDl [110, 101, 103] rfl) (lit_noDl [109, 97, 120] rfl) (ends_cons 40 _ rfl) (ends_cons 40 _ rfl) h).1
      exact absurd e (by decide)
    | odd v => cases fb
  | mul l r h1 h2 =>
    intro b X Y fa fb hX hY h
    cases b with
    | const n' =>
      exfalso
      simp only [textO, joinL_2, List.append_assoc, List.cons_append] at h
      have e := (word_split (lit_noDl [109, 117, 108] rfl) (num_noDl _) (ends_cons 40 _ rfl) hY h).1
      exact num_not _ [109, 117, 108] rfl e.symm
    | fix s' =>
      exfalso
      simp only [textO, joinL_1, joinL_2, List.append_assoc, List.cons_append] at h
      have e := (word_split (lit_noDl [109, 117, 108] rfl) (lit_noDl [102, 105, 120] rfl) (ends_cons 40 _ rfl) (ends_cons 40 _ rfl) h).1
      exact absurd e (by decide)
    | add l' r' =>
      exfalso
      simp only [textO, joinL_2, List.append_assoc, List.cons_append] at h
      have e := (word_split (lit_noDl [109, 117, 108] rfl) (lit_noDl [97, 100, 100] rfl) (ends_cons 40 _ rfl) (ends_cons 40 _ rfl) h).1
      exact absurd e (by decide)
    | neg o' =>
      exfalso
      simp only [textO, joinL_1, joinL_2, List.append_assoc, List.cons_append] at h
      have e := (word_split (lit_noDl [109, 117, 108] rfl) (lit_noDl [110, 101, 103] rfl) (ends_cons 40 _ rfl) (ends_cons 40 _ rfl) h).1
      exact absurd e (by decide)
    | mul l' r' =>
      simp only [formB, Bool.and_eq_true] at fa fb
      simp only [textO, joinL_2, List.append_assoc, List.cons_append, List.nil_append, List.cons.injEq, true_and] at h
      obtain ⟨e, h⟩ := h1 l' _ _ fa.1 fb.1 (ends_cons _ _ hdl44) (ends_cons _ _ hdl44) h
      simp only [List.cons.injEq, true_and] at h
      obtain ⟨e2, h⟩ := h2 r' _ _ fa.2 fb.2 (ends_cons _ _ hdl41) (ends_cons _ _ hdl41) h
      simp only [List.cons.injEq, true_and] at h
      exact ⟨by rw [e, e2], h⟩
    | max l' r' =>
      exfalso
      simp only [textO, joinL_2, List.append_assoc, List.cons_append] at h
      have e := (word_split (lit_noDl [109, 117, 108] rfl) (lit_noDl [109, 97, 120] rfl) (ends_cons 40 _ rfl) (ends_cons 40 _ rfl) h).1
      exact absurd e (by decide)
    | odd v => cases fb
  | max l r h1 h2 =>
    intro b X Y fa fb hX hY h
    cases b with
    | const n' =>
      exfalso
      simp only [textO, joinL_2, List.append_assoc, List.cons_append] at h
      have e := (word_split (lit_noDl [109, 97, 120] rfl) (num_noDl _) (ends_cons 40 _ rfl) hY h).1
      exact num_not _ [109, 97, 120] rfl e.symm
    | fix s' =>
      exfalso
      simp only [textO, joinL_1, joinL_2, List.append_assoc, List.cons_append] at h
      have e := (word_split (lit_noDl [109, 97, 120] rfl) (lit_noDl [102, 105, 120] rfl) (ends_cons 40 _ rfl) (ends_cons 40 _ rfl) h).1
      exact absurd e (by decide)
    | add l' r' =>
      exfalso
      simp only [textO, joinL_2, List.append_assoc, List.cons_append] at h
      have e := (word_split (lit_noDl [109, 97, 120] rfl) (lit_noDl [97, 100, 100] rfl) (ends_cons 40 _ rfl) (ends_cons 40 _ rfl) h).1
      exact absurd e (by decide)
    | neg o' =>
      exfalso
      simp only [textO, joinL_1, joinL_2, List.append_assoc, List.cons_append] at h
      have e := (word_split (lit_noDl [109, 97, 120] rfl) (lit_noDl [110, 101, 103] rfl) (ends_cons 40 _ rfl) (ends_cons 40 _ rfl) h).1
      exact absurd e (by decide)
    | mul l' r' =>
      exfalso
      simp only [textO, joinL_2, List.append_assoc, List.cons_append] at h
      have e := (word_split (lit_noDl [109, 97, 120] rfl) (lit_noDl [109, 117, 108] rfl) (ends_cons 40 _ rfl) (ends_cons 40 _ rfl) h).1
      exact absurd e (by decide)
    | max l' r' =>
      simp only [formB, Bool.and_eq_true] at fa fb
      simp only [textO, joinL_2, List.append_assoc, List.cons_append, List.nil_append, List.cons.injEq, true_and] at h
      obtain ⟨e, h⟩ := h1 l' _ _ fa.1 fb.1 (ends_cons _ _ hdl44) (ends_cons _ _ hdl44) h
      simp only [List.cons.injEq, true_and] at h
      obtain ⟨e2, h⟩ := h2 r' _ _ fa.2 fb.2 (ends_cons _ _ hdl41) (ends_cons _ _ hdl41) h
      simp only [List.cons.injEq, true_and] at h
      exact ⟨by rw [e, e2], h⟩
    | odd v => cases fb
  | odd v => intro b X Y fa; cases fa
theorem uniqC (a : C) : ∀ (b : C) (X Y : List UInt8), formC a = true → formC b = true → endsW X → endsW Y → (textC a).data.toList ++ X = (textC b).data.toList ++ Y → a = b ∧ X = Y := by
  have hdl41 : dl 41 = true := rfl
  have hdl44 : dl 44 = true := rfl
  induction a with
  | zero =>
    intro b X Y fa fb hX hY h
    cases b with
    | zero =>
      simp only [textC] at h
      exact ⟨rfl, List.append_cancel_left h⟩
    | one s' =>
      exfalso
      simp only [textC, joinL_1, List.append_assoc, List.cons_append] at h
      have e := (word_split (lit_noDl [122, 101, 114, 111] rfl) (lit_noDl [111, 110, 101] rfl) hX (ends_cons 40 _ rfl) h).1
      exact absurd e (by decide)
    | give c' =>
      exfalso
      simp only [textC, joinL_1, List.append_assoc, List.cons_append] at h
      have e := (word_split (lit_noDl [122, 101, 114, 111] rfl) (lit_noDl [103, 105, 118, 101] rfl) hX (ends_cons 40 _ rfl) h).1
      exact absurd e (by decide)
    | and l' r' =>
      exfalso
      simp only [textC, joinL_2, List.append_assoc, List.cons_append] at h
      have e := (word_split (lit_noDl [122, 101, 114, 111] rfl) (lit_noDl [97, 110, 100] rfl) hX (ends_cons 40 _ rfl) h).1
      exact absurd e (by decide)
    | or s' l' r' =>
      exfalso
      simp only [textC, joinL_3, List.append_assoc, List.cons_append] at h
      have e := (word_split (lit_noDl [122, 101, 114, 111] rfl) (lit_noDl [111, 114] rfl) hX (ends_cons 40 _ rfl) h).1
      exact absurd e (by decide)
    | scale o' c' =>
      exfalso
      simp only [textC, joinL_2, List.append_assoc, List.cons_append] at h
      have e := (word_split (lit_noDl [122, 101, 114, 111] rfl) (lit_noDl [115, 99, 97, 108, 101] rfl) hX (ends_cons 40 _ rfl) h).1
      exact absurd e (by decide)
    | when d' c' =>
      exfalso
      simp only [textC, joinL_2, List.append_assoc, List.cons_append] at h
      have e := (word_split (lit_noDl [122, 101, 114, 111] rfl) (lit_noDl [119, 104, 101, 110] rfl) hX (ends_cons 40 _ rfl) h).1
      exact absurd e (by decide)
    | iff o' l' r' =>
      exfalso
      simp only [textC, joinL_3, List.append_assoc, List.cons_append] at h
      have e := (word_split (lit_noDl [122, 101, 114, 111] rfl) (lit_noDl [105, 102] rfl) hX (ends_cons 40 _ rfl) h).1
      exact absurd e (by decide)
    | odd v => cases fb
  | one s =>
    intro b X Y fa fb hX hY h
    cases b with
    | zero =>
      exfalso
      simp only [textC, joinL_1, List.append_assoc, List.cons_append] at h
      have e := (word_split (lit_noDl [111, 110, 101] rfl) (lit_noDl [122, 101, 114, 111] rfl) (ends_cons 40 _ rfl) hY h).1
      exact absurd e (by decide)
    | one s' =>
      simp only [textC, joinL_1, List.append_assoc, List.cons_append, List.nil_append, List.cons.injEq, true_and] at h
      obtain ⟨e0, h⟩ := word_split (name_noDl s fa) (name_noDl s' fb) (ends_cons _ _ hdl41) (ends_cons _ _ hdl41) h
      simp only [List.cons.injEq, true_and] at h
      exact ⟨by rw [baExt e0], h⟩
    | give c' =>
      exfalso
      simp only [textC, joinL_1, List.append_assoc, List.cons_append] at h
      have e := (word_split (lit_noDl [111, 110, 101] rfl) (lit_noDl [103, 105, 118, 101] rfl) (ends_cons 40 _ rfl) (ends_cons 40 _ rfl) h).1
      exact absurd e (by decide)
    | and l' r' =>
      exfalso
      simp only [textC, joinL_1, joinL_2, List.append_assoc, List.cons_append] at h
      have e := (word_split (lit_noDl [111, 110, 101] rfl) (lit_noDl [97, 110, 100] rfl) (ends_cons 40 _ rfl) (ends_cons 40 _ rfl) h).1
      exact absurd e (by decide)
    | or s' l' r' =>
      exfalso
      simp only [textC, joinL_1, joinL_3, List.append_assoc, List.cons_append] at h
      have e := (word_split (lit_noDl [111, 110, 101] rfl) (lit_noDl [111, 114] rfl) (ends_cons 40 _ rfl) (ends_cons 40 _ rfl) h).1
      exact absurd e (by decide)
    | scale o' c' =>
      exfalso
      simp only [textC, joinL_1, joinL_2, List.append_assoc, List.cons_append] at h
      have e := (word_split (lit_noDl [111, 110, 101] rfl) (lit_noDl [115, 99, 97, 108, 101] rfl) (ends_cons 40 _ rfl) (ends_cons 40 _ rfl) h).1
      exact absurd e (by decide)
    | when d' c' =>
      exfalso
      simp only [textC, joinL_1, joinL_2, List.append_assoc, List.cons_append] at h
      have e := (word_split (lit_noDl [111, 110, 101] rfl) (lit_noDl [119, 104, 101, 110] rfl) (ends_cons 40 _ rfl) (ends_cons 40 _ rfl) h).1
      exact absurd e (by decide)
    | iff o' l' r' =>
      exfalso
      simp only [textC, joinL_1, joinL_3, List.append_assoc, List.cons_append] at h
      have e := (word_split (lit_noDl [111, 110, 101] rfl) (lit_noDl [105, 102] rfl) (ends_cons 40 _ rfl) (ends_cons 40 _ rfl) h).1
      exact absurd e (by decide)
    | odd v => cases fb
  | give c h1 =>
    intro b X Y fa fb hX hY h
    cases b with
    | zero =>
      exfalso
      simp only [textC, joinL_1, List.append_assoc, List.cons_append] at h
      have e := (word_split (lit_noDl [103, 105, 118, 101] rfl) (lit_noDl [122, 101, 114, 111] rfl) (ends_cons 40 _ rfl) hY h).1
      exact absurd e (by decide)
    | one s' =>
      exfalso
      simp only [textC, joinL_1, List.append_assoc, List.cons_append] at h
      have e := (word_split (lit_noDl [103, 105, 118, 101] rfl) (lit_noDl [111, 110, 101] rfl) (ends_cons 40 _ rfl) (ends_cons 40 _ rfl) h).1
      exact absurd e (by decide)
    | give c' =>
      simp only [textC, joinL_1, List.append_assoc, List.cons_append, List.nil_append, List.cons.injEq, true_and] at h
      obtain ⟨e0, h⟩ := h1 c' _ _ fa fb (ends_cons _ _ hdl41) (ends_cons _ _ hdl41) h
      simp only [List.cons.injEq, true_and] at h
      exact ⟨by rw [e0], h⟩
    | and l' r' =>
      exfalso
      simp only [textC, joinL_1, joinL_2, List.append_assoc, List.cons_append] at h
      have e := (word_split (lit_noDl [103, 105, 118, 101] rfl) (lit_noDl [97, 110, 100] rfl) (ends_cons 40 _ rfl) (ends_cons 40 _ rfl) h).1
      exact absurd e (by decide)
    | or s' l' r' =>
      exfalso
      simp only [textC, joinL_1, joinL_3, List.append_assoc, List.cons_append] at h
      have e := (word_split (lit_noDl [103, 105, 118, 101] rfl) (lit_noDl [111, 114] rfl) (ends_cons 40 _ rfl) (ends_cons 40 _ rfl) h).1
      exact absurd e (by decide)
    | scale o' c' =>
      exfalso
      simp only [textC, joinL_1, joinL_2, List.append_assoc, List.cons_append] at h
      have e := (word_split (lit_noDl [103, 105, 118, 101] rfl) (lit_noDl [115, 99, 97, 108, 101] rfl) (ends_cons 40 _ rfl) (ends_cons 40 _ rfl) h).1
      exact absurd e (by decide)
    | when d' c' =>
      exfalso
      simp only [textC, joinL_1, joinL_2, List.append_assoc, List.cons_append] at h
      have e := (word_split (lit_noDl [103, 105, 118, 101] rfl) (lit_noDl [119, 104, 101, 110] rfl) (ends_cons 40 _ rfl) (ends_cons 40 _ rfl) h).1
      exact absurd e (by decide)
    | iff o' l' r' =>
      exfalso
      simp only [textC, joinL_1, joinL_3, List.append_assoc, List.cons_append] at h
      have e := (word_split (lit_noDl [103, 105, 118, 101] rfl) (lit_noDl [105, 102] rfl) (ends_cons 40 _ rfl) (ends_cons 40 _ rfl) h).1
      exact absurd e (by decide)
    | odd v => cases fb
  | and l r h1 h2 =>
    intro b X Y fa fb hX hY h
    cases b with
    | zero =>
      exfalso
      simp only [textC, joinL_2, List.append_assoc, List.cons_append] at h
      have e := (word_split (lit_noDl [97, 110, 100] rfl) (lit_noDl [122, 101, 114, 111] rfl) (ends_cons 40 _ rfl) hY h).1
      exact absurd e (by decide)
    | one s' =>
      exfalso
      simp only [textC, joinL_1, joinL_2, List.append_assoc, List.cons_append] at h
      have e := (word_split (lit_noDl [97, 110, 100] rfl) (lit_noDl [111, 110, 101] rfl) (ends_cons 40 _ rfl) (ends_cons 40 _ rfl) h).1
      exact absurd e (by decide)
    | give c' =>
      exfalso
      simp only [textC, joinL_1, joinL_2, List.append_assoc, List.cons_append] at h
      have e := (word_split (lit_noDl [97, 110, 100] rfl) (lit_noDl [103, 105, 118, 101] rfl) (ends_cons 40 _ rfl) (ends_cons 40 _ rfl) h).1
      exact absurd e (by decide)
    | and l' r' =>
      simp only [formC, Bool.and_eq_true] at fa fb
      simp only [textC, joinL_2, List.append_assoc, List.cons_append, List.nil_append, List.cons.injEq, true_and] at h
      obtain ⟨e0, h⟩ := h1 l' _ _ fa.1 fb.1 (ends_cons _ _ hdl44) (ends_cons _ _ hdl44) h
      simp only [List.cons.injEq, true_and] at h
      obtain ⟨e1, h⟩ := h2 r' _ _ fa.2 fb.2 (ends_cons _ _ hdl41) (ends_cons _ _ hdl41) h
      simp only [List.cons.injEq, true_and] at h
      exact ⟨by rw [e0, e1], h⟩
    | or s' l' r' =>
      exfalso
      simp only [textC, joinL_2, joinL_3, List.append_assoc, List.cons_append] at h
      have e := (word_split (lit_noDl [97, 110, 100] rfl) (lit_noDl [111, 114] rfl) (ends_cons 40 _ rfl) (ends_cons 40 _ rfl) h).1
      exact absurd e (by decide)
    | scale o' c' =>
      exfalso
      simp only [textC, joinL_2, List.append_assoc, List.cons_append] at h
      have e := (word_split (lit_noDl [97, 110, 100] rfl) (lit_noDl [115, 99, 97, 108, 101] rfl) (ends_cons 40 _ rfl) (ends_cons 40 _ rfl) h).1
      exact absurd e (by decide)
    | when d' c' =>
      exfalso
      simp only [textC, joinL_2, List.append_assoc, List.cons_append] at h
      have e := (word_split (lit_noDl [97, 110, 100] rfl) (lit_noDl [119, 104, 101, 110] rfl) (ends_cons 40 _ rfl) (ends_cons 40 _ rfl) h).1
      exact absurd e (by decide)
    | iff o' l' r' =>
      exfalso
      simp only [textC, joinL_2, joinL_3, List.append_assoc, List.cons_append] at h
      have e := (word_split (lit_noDl [97, 110, 100] rfl) (lit_noDl [105, 102] rfl) (ends_cons 40 _ rfl) (ends_cons 40 _ rfl) h).1
      exact absurd e (by decide)
    | odd v => cases fb
  | or s l r h1 h2 =>
    intro b X Y fa fb hX hY h
    cases b with
    | zero =>
      exfalso
      simp only [textC, joinL_3, List.append_assoc, List.cons_append] at h
      have e := (word_split (lit_noDl [111, 114] rfl) (lit_noDl [122, 101, 114, 111] rfl) (ends_cons 40 _ rfl) hY h).1
      exact absurd e (by decide)
    | one s' =>
      exfalso
      simp only [textC, joinL_1, joinL_3, List.append_assoc, List.cons_append] at h
      have e := (word_split (lit_noDl [111, 114] rfl) (lit_noDl [111, 110, 101] rfl) (ends_cons 40 _ rfl) (ends_cons 40 _ rfl) h).1
      exact absurd e (by decide)
    | give c' =>
      exfalso
      simp only [textC, joinL_1, joinL_3, List.append_assoc, List.cons_append] at h
      have e := (word_split (lit_noDl [111, 114] rfl) (lit_noDl [103, 105, 118, 101] rfl) (ends_cons 40 _ rfl) (ends_cons 40 _ rfl) h).1
      exact absurd e (by decide)
    | and l' r' =>
      exfalso
      simp only [textC, joinL_2, joinL_3, List.append_assoc, List.cons_append] at h
      have e := (word_split (lit_noDl [111, 114] rfl) (lit_noDl [97, 110, 100] rfl) (ends_cons 40 _ rfl) (ends_cons 40 _ rfl) h).1
      exact absurd e (by decide)
    | or s' l' r' =>
      simp only [formC, Bool.and_eq_true] at fa fb
      simp only [textC, joinL_3, List.append_assoc, List.cons_append, List.nil_append, List.cons.injEq, true_and] at h
      obtain ⟨e0, h⟩ := word_split (name_noDl s fa.1.1) (name_noDl s' fb.1.1) (ends_cons _ _ hdl44) (ends_cons _ _ hdl44) h
      simp only [List.cons.injEq, true_and] at h
      obtain ⟨e1, h⟩ := h1 l' _ _ fa.1.2 fb.1.2 (ends_cons _ _ hdl44) (ends_cons _ _ hdl44) h
      simp only [List.cons.injEq, true_and] at h
      obtain ⟨e2, h⟩ := h2 r' _ _ fa.2 fb.2 (ends_cons _ _ hdl41) (ends_cons _ _ hdl41) h
      simp only [List.cons.injEq, true_and] at h
      exact ⟨by rw [baExt e0, e1, e2], h⟩
    | scale o' c' =>
      exfalso
      simp only [textC, joinL_2, joinL_3, List.append_assoc, List.cons_append] at h
      have e := (word_split (lit_noDl [111, 114] rfl) (lit_noDl [115, 99, 97, 108, 101] rfl) (ends_cons 40 _ rfl) (ends_cons 40 _ rfl) h).1
      exact absurd e (by decide)
    | when d' c' =>
      exfalso
      simp only [textC, joinL_2, joinL_3, List.append_assoc, List.cons_append] at h
      have e := (word_split (lit_noDl [111, 114] rfl) (lit_noDl [119, 104, 101, 110] rfl) (ends_cons 40 _ rfl) (ends_cons 40 _ rfl) h).1
      exact absurd e (by decide)
    | iff o' l' r' =>
      exfalso
      simp only [textC, joinL_3, List.append_assoc, List.cons_append] at h
      have e := (word_split (lit_noDl [111, 114] rfl) (lit_noDl [105, 102] rfl) (ends_cons 40 _ rfl) (ends_cons 40 _ rfl) h).1
      exact absurd e (by decide)
    | odd v => cases fb
  | scale o c h1 =>
    intro b X Y fa fb hX hY h
    cases b with
    | zero =>
      exfalso
      simp only [textC, joinL_2, List.append_assoc, List.cons_append] at h
      have e := (word_split (lit_noDl [115, 99, 97, 108, 101] rfl) (lit_noDl [122, 101, 114, 111] rfl) (ends_cons 40 _ rfl) hY h).1
      exact absurd e (by decide)
    | one s' =>
      exfalso
      simp only [textC, joinL_1, joinL_2, List.append_assoc, List.cons_append] at h
      have e := (word_split (lit_noDl [115, 99, 97, 108, 101] rfl) (lit_noDl [111, 110, 101] rfl) (ends_cons 40 _ rfl) (ends_cons 40 _ rfl) h).1
      exact absurd e (by decide)
    | give c' =>
      exfalso
      simp only [textC, joinL_1, joinL_2, List.append_assoc, List.cons_append] at h
      have e := (word_split (lit_noDl [115, 99, 97, 108, 101] rfl) (lit_noDl [103, 105, 118, 101] rfl) (ends_cons 40 _ rfl) (ends_cons 40 _ rfl) h).1
      exact absurd e (by decide)
    | and l' r' =>
      exfalso
      simp only [textC, joinL_2, List.append_assoc, List.cons_append] at h
      have e := (word_split (lit_noDl [115, 99, 97, 108, 101] rfl) (lit_noDl [97, 110, 100] rfl) (ends_cons 40 _ rfl) (ends_cons 40 _ rfl) h).1
      exact absurd e (by decide)
    | or s' l' r' =>
      exfalso
      simp only [textC, joinL_2, joinL_3, List.append_assoc, List.cons_append] at h
      have e := (word_split (lit_noDl [115, 99, 97, 108, 101] rfl) (lit_noDl [111, 114] rfl) (ends_cons 40 _ rfl) (ends_cons 40 _ rfl) h).1
      exact absurd e (by decide)
    | scale o' c' =>
      simp only [formC, Bool.and_eq_true] at fa fb
      simp only [textC, joinL_2, List.append_assoc, List.cons_append, List.nil_append, List.cons.injEq, true_and] at h
      obtain ⟨e0, h⟩ := uniqO o o' _ _ fa.1 fb.1 (ends_cons _ _ hdl44) (ends_cons _ _ hdl44) h
      simp only [List.cons.injEq, true_and] at h
      obtain ⟨e1, h⟩ := h1 c' _ _ fa.2 fb.2 (ends_cons _ _ hdl41) (ends_cons _ _ hdl41) h
      simp only [List.cons.injEq, true_and] at h
      exact ⟨by rw [e0, e1], h⟩
    | when d' c' =>
      exfalso
      simp only [textC, joinL_2, List.append_assoc, List.cons_append] at h
      have e := (word_split (lit_noDl [115, 99, 97, 108, 101] rfl) (lit_noDl [119, 104, 101, 110] rfl) (ends_cons 40 _ rfl) (ends_cons 40 _ rfl) h).1
      exact absurd e (by decide)
    | iff o' l' r' =>
      exfalso
      simp only [textC, joinL_2, joinL_3, List.append_assoc, List.cons_append] at h
      have e := (word_split (lit_noDl [115, 99, 97, 108, 101] rfl) (lit_noDl [105, 102] rfl) (ends_cons 40 _ rfl) (ends_cons 40 _ rfl) h).1
      exact absurd e (by decide)
    | odd v => cases fb
  | when d c h1 =>
    intro b X Y fa fb hX hY h
    cases b with
    | zero =>
      exfalso
      simp only [textC, joinL_2, List.append_assoc, List.cons_append] at h
      have e := (word_split (lit_noDl [119, 104, 101, 110] rfl) (lit_noDl [122, 101, 114, 111] rfl) (ends_cons 40 _ rfl) hY h).1
      exact absurd e (by decide)
    | one s' =>
      exfalso
      simp only [textC, joinL_1, joinL_2, List.append_assoc, List.cons_append] at h
      have e := (word_split (lit_noDl [119, 104, 101, 110] rfl) (lit_noDl [111, 110, 101] rfl) (ends_cons 40 _ rfl) (ends_cons 40 _ rfl) h).1
      exact absurd e (by decide)
    | give c' =>
      exfalso
      simp only [textC, joinL_1, joinL_2, List.append_assoc, List.cons_append] at h
      have e := (word_split (lit_noDl [119, 104, 101, 110] rfl) (lit_noDl [103, 105, 118, 101] rfl) (ends_cons 40 _ rfl) (ends_cons 40 _ rfl) h).1
      exact absurd e (by decide)
    | and l' r' =>
      exfalso
      simp only [textC, joinL_2, List.append_assoc, List.cons_append] at h
      have e := (word_split (lit_noDl [119, 104, 101, 110] rfl) (lit_noDl [97, 110, 100] rfl) (ends_cons 40 _ rfl) (ends_cons 40 _ rfl) h).1
      exact absurd e (by decide)
    | or s' l' r' =>
      exfalso
      simp only [textC, joinL_2, joinL_3, List.append_assoc, List.cons_append] at h
      have e := (word_split (lit_noDl [119, 104, 101, 110] rfl) (lit_noDl [111, 114] rfl) (ends_cons 40 _ rfl) (ends_cons 40 _ rfl) h).1
      exact absurd e (by decide)
    | scale o' c' =>
      exfalso
      simp only [textC, joinL_2, List.append_assoc, List.cons_append] at h
      have e := (word_split (lit_noDl [119, 104, 101, 110] rfl) (lit_noDl [115, 99, 97, 108, 101] rfl) (ends_cons 40 _ rfl) (ends_cons 40 _ rfl) h).1
      exact absurd e (by decide)
    | when d' c' =>
      simp only [formC, Bool.and_eq_true] at fa fb
      simp only [textC, joinL_2, List.append_assoc, List.cons_append, List.nil_append, List.cons.injEq, true_and] at h
      obtain ⟨e0, h⟩ := word_split (num_noDl d) (num_noDl d') (ends_cons _ _ hdl44) (ends_cons _ _ hdl44) h
      simp only [List.cons.injEq, true_and] at h
      obtain ⟨e1, h⟩ := h1 c' _ _ fa.2 fb.2 (ends_cons _ _ hdl41) (ends_cons _ _ hdl41) h
      simp only [List.cons.injEq, true_and] at h
      exact ⟨by rw [num_inj e0, e1], h⟩
    | iff o' l' r' =>
      exfalso
      simp only [textC, joinL_2, joinL_3, List.append_assoc, List.cons_append] at h
      have e := (word_split (lit_noDl [119, 104, 101, 110] rfl) (lit_noDl [105, 102] rfl) (ends_cons 40 _ rfl) (ends_cons 40 _ rfl) h).1
      exact absurd e (by decide)
    | odd v => cases fb
  | iff o l r h1 h2 =>
    intro b X Y fa fb hX hY h
    cases b with
    | zero =>
      exfalso
      simp only [textC, joinL_3, List.append_assoc, List.cons_append] at h
      have e := (word_split (lit_noDl [105, 102] rfl) (lit_noDl [122, 101, 114, 111] rfl) (ends_cons 40 _ rfl) hY h).1
      exact absurd e (by decide)
    | one s' =>
      exfalso
      simp only [textC, joinL_1, joinL_3, List.append_assoc, List.cons_append] at h
      have e := (word_split (lit_noDl [105, 102] rfl) (lit_noDl [111, 110, 101] rfl) (ends_cons 40 _ rfl) (ends_cons 40 _ rfl) h).1
      exact absurd e (by decide)
    | give c' =>
      exfalso
      simp only [textC, joinL_1, joinL_3, List.append_assoc, List.cons_append] at h
      have e := (word_split (lit_noDl [105, 102] rfl) (lit_noDl [103, 105, 118, 101] rfl) (ends_cons 40 _ rfl) (ends_cons 40 _ rfl) h).1
      exact absurd e (by decide)
    | and l' r' =>
      exfalso
      simp only [textC, joinL_2, joinL_3, List.append_assoc, List.cons_append] at h
      have e := (word_split (lit_noDl [105, 102] rfl) (lit_noDl [97, 110, 100] rfl) (ends_cons 40 _ rfl) (ends_cons 40 _ rfl) h).1
      exact absurd e (by decide)
    | or s' l' r' =>
      exfalso
      simp only [textC, joinL_3, List.append_assoc, List.cons_append] at h
      have e := (word_split (lit_noDl [105, 102] rfl) (lit_noDl [111, 114] rfl) (ends_cons 40 _ rfl) (ends_cons 40 _ rfl) h).1
      exact absurd e (by decide)
    | scale o' c' =>
      exfalso
      simp only [textC, joinL_2, joinL_3, List.append_assoc, List.cons_append] at h
      have e := (word_split (lit_noDl [105, 102] rfl) (lit_noDl [115, 99, 97, 108, 101] rfl) (ends_cons 40 _ rfl) (ends_cons 40 _ rfl) h).1
      exact absurd e (by decide)
    | when d' c' =>
      exfalso
      simp only [textC, joinL_2, joinL_3, List.append_assoc, List.cons_append] at h
      have e := (word_split (lit_noDl [105, 102] rfl) (lit_noDl [119, 104, 101, 110] rfl) (ends_cons 40 _ rfl) (ends_cons 40 _ rfl) h).1
      exact absurd e (by decide)
    | iff o' l' r' =>
      simp only [formC, Bool.and_eq_true] at fa fb
      simp only [textC, joinL_3, List.append_assoc, List.cons_append, List.nil_append, List.cons.injEq, true_and] at h
      obtain ⟨e0, h⟩ := uniqO o o' _ _ fa.1.1 fb.1.1 (ends_cons _ _ hdl44) (ends_cons _ _ hdl44) h
      simp only [List.cons.injEq, true_and] at h
      obtain ⟨e1, h⟩ := h1 l' _ _ fa.1.2 fb.1.2 (ends_cons _ _ hdl44) (ends_cons _ _ hdl44) h
      simp only [List.cons.injEq, true_and] at h
      obtain ⟨e2, h⟩ := h2 r' _ _ fa.2 fb.2 (ends_cons _ _ hdl41) (ends_cons _ _ hdl41) h
      simp only [List.cons.injEq, true_and] at h
      exact ⟨by rw [e0, e1, e2], h⟩
    | odd v => cases fb
  | odd v => intro b X Y fa; cases fa
theorem textO_inj {a b : O} (fa : formB a = true) (fb : formB b = true) (h : textO a = textO b) : a = b :=
  (uniqO a b [] [] fa fb (.inl rfl) (.inl rfl) (by rw [h])).1
theorem textC_inj {a b : C} (fa : formC a = true) (fb : formC b = true) (h : textC a = textC b) : a = b :=
  (uniqC a b [] [] fa fb (.inl rfl) (.inl rfl) (by rw [h])).1
theorem sameO_eq (a : O) : ∀ b, sameO a b = true → a = b := by
  induction a with
  | const n => intro b h; cases b <;> simp_all [sameO]
  | fix s => intro b h; cases b <;> simp_all [sameO]
  | add l r h1 h2 => intro b h; cases b <;> simp [sameO] at h; rename_i l' r'; rw [h1 l' h.1, h2 r' h.2]
  | mul l r h1 h2 => intro b h; cases b <;> simp [sameO] at h; rename_i l' r'; rw [h1 l' h.1, h2 r' h.2]
  | max l r h1 h2 => intro b h; cases b <;> simp [sameO] at h; rename_i l' r'; rw [h1 l' h.1, h2 r' h.2]
  | neg o h1 => intro b h; cases b <;> simp [sameO] at h; rename_i o'; rw [h1 o' h]
  | odd v => intro b h; cases b <;> simp [sameO] at h
theorem sameC_eq (a : C) : ∀ b, sameC a b = true → a = b := by
  induction a with
  | zero => intro b h; cases b <;> simp_all [sameC]
  | one s => intro b h; cases b <;> simp_all [sameC]
  | give c h1 => intro b h; cases b <;> simp [sameC] at h; rename_i c'; rw [h1 c' h]
  | and l r h1 h2 => intro b h; cases b <;> simp [sameC] at h; rename_i l' r'; rw [h1 l' h.1, h2 r' h.2]
  | or s l r h1 h2 => intro b h; cases b <;> simp [sameC] at h; rename_i s' l' r'; rw [h.1, h1 l' h.2.1, h2 r' h.2.2]
  | scale o c h1 => intro b h; cases b <;> simp [sameC] at h; rename_i o' c'; rw [sameO_eq o o' h.1, h1 c' h.2]
  | when d c h1 => intro b h; cases b <;> simp [sameC] at h; rename_i d' c'; rw [h.1, h1 c' h.2]
  | iff o l r h1 h2 => intro b h; cases b <;> simp [sameC] at h; rename_i o' l' r'; rw [sameO_eq o o' h.1, h1 l' h.2.1, h2 r' h.2.2]
  | odd v => intro b h; cases b <;> simp [sameC] at h

end Go.Proofs.YtfmjjfpajohihaaGreatDoor
namespace Go.Proofs.YtfmjjfpajohihaaGreatDoor
open Go.RowKit
set_option linter.unusedVariables false

/-- A contract's signs, without the last one. -/
def sgL (p : Nat) : C → List Rn.Sg
  | .one s => (wOne, ((p + 1 : Nat) : Int)) :: (lpB, ((p + 4 : Nat) : Int)) :: [(s, ((p + 4 + 1 : Nat) : Int))]
  | .give c => (wGive, ((p + 1 : Nat) : Int)) :: (lpB, ((p + 5 : Nat) : Int)) :: sgC (p + 5) c
  | .and a b => (wAnd, ((p + 1 : Nat) : Int)) :: (lpB, ((p + 4 : Nat) : Int)) :: (sgC (p + 4) a ++ (cmB, ((p + 4 + (rnC a).length + 1 : Nat) : Int)) :: sgC (p + 4 + (rnC a).length + 1) b)
  | .or s a b => (wOr, ((p + 1 : Nat) : Int)) :: (lpB, ((p + 3 : Nat) : Int)) :: ([(s, ((p + 3 + 1 : Nat) : Int))] ++ (cmB, ((p + 3 + (runesOf s).length + 1 : Nat) : Int)) :: (sgC (p + 3 + (runesOf s).length + 1) a ++ (cmB, ((p + 3 + (runesOf s).length + 1 + (rnC a).length + 1 : Nat) : Int)) :: sgC (p + 3 + (runesOf s).length + 1 + (rnC a).length + 1) b))
  | .scale o c => (wScale, ((p + 1 : Nat) : Int)) :: (lpB, ((p + 6 : Nat) : Int)) :: (sgO (p + 6) o ++ (cmB, ((p + 6 + (rnO o).length + 1 : Nat) : Int)) :: sgC (p + 6 + (rnO o).length + 1) c)
  | .when n c => (wWhen, ((p + 1 : Nat) : Int)) :: (lpB, ((p + 5 : Nat) : Int)) :: ([(numB n, ((p + 5 + 1 : Nat) : Int))] ++ (cmB, ((p + 5 + (rnN n).length + 1 : Nat) : Int)) :: sgC (p + 5 + (rnN n).length + 1) c)
  | .iff o a b => (wIf, ((p + 1 : Nat) : Int)) :: (lpB, ((p + 3 : Nat) : Int)) :: (sgO (p + 3) o ++ (cmB, ((p + 3 + (rnO o).length + 1 : Nat) : Int)) :: (sgC (p + 3 + (rnO o).length + 1) a ++ (cmB, ((p + 3 + (rnO o).length + 1 + (rnC a).length + 1 : Nat) : Int)) :: sgC (p + 3 + (rnO o).length + 1 + (rnC a).length + 1) b))
  | _ => []
def C.isZero : C → Bool
  | .zero => true
  | _ => false
theorem sgL_snoc (p : Nat) (x : C) (hf : formC x = true) (hz : x.isZero = false) : ∃ q, sgC p x = sgL p x ++ [(rpB, q)] := by
  cases x with
  | odd v => cases hf
  | zero => cases hz
  | one s => exact ⟨((p + 4 + (runesOf s).length + 1 : Nat) : Int), by simp [sgC, sgL]⟩
  | give c => exact ⟨((p + 5 + (rnC c).length + 1 : Nat) : Int), by simp [sgC, sgL]⟩
  | and a b => exact ⟨((p + 4 + (rnC a).length + 1 + (rnC b).length + 1 : Nat) : Int), by simp [sgC, sgL]⟩
  | or s a b => exact ⟨((p + 3 + (runesOf s).length + 1 + (rnC a).length + 1 + (rnC b).length + 1 : Nat) : Int), by simp [sgC, sgL]⟩
  | scale o c => exact ⟨((p + 6 + (rnO o).length + 1 + (rnC c).length + 1 : Nat) : Int), by simp [sgC, sgL]⟩
  | when n c => exact ⟨((p + 5 + (rnN n).length + 1 + (rnC c).length + 1 : Nat) : Int), by simp [sgC, sgL]⟩
  | iff o a b => exact ⟨((p + 3 + (rnO o).length + 1 + (rnC a).length + 1 + (rnC b).length + 1 : Nat) : Int), by simp [sgC, sgL]⟩
theorem mark_none (r : RS) (h : r.e = 0) : (markR (r.put []) rpB).e = 2 ∧ (markR (r.put []) rpB).pl = r.past := by
  have h1 : takeS (r.put []) = (⟨#[]⟩, r.past) := by unfold takeS noS; rw [if_pos (by exact h)]; rfl
  have h2 : takeR (r.put []) = r.put [] := by unfold takeR; rw [if_pos (by exact h)]; rfl
  unfold markR
  rw [h1, h2]
  unfold fitR refuseR
  rw [if_neg (by show ¬ decide ((⟨#[]⟩ : ByteArray) = rpB) = true; decide), if_pos (by exact h)]
  exact ⟨rfl, rfl⟩
theorem dead_end (r : RS) (h : r.e ≠ 0) : endRd r = r := by
  have h1 : takeR r = r := by unfold takeR; rw [if_neg h]
  have h2 : takeS r = (⟨#[]⟩, r.past) := takeS_none r h
  unfold endRd
  rw [h1, h2]
  unfold fitR
  rw [if_pos (by simp)]
/-- Without its last sign it lacks that one. -/
theorem term_lack (x : C) (hf : formC x = true) (hz : x.isZero = false) (f d : Nat) (r : RS) (p : Nat) (hdf : d + f = 15) (hdd : d + x.depth ≤ 13) (he : r.e = 0) : (termR f (r.put (sgL p x)) d).2 = markR (r.put []) rpB := by
  have hd1 := cdepth1 x hf
  obtain ⟨f, rfl⟩ : ∃ g, f = g + 1 := ⟨f - 1, by omega⟩
  cases x with
  | odd v => cases hf
  | zero => cases hz
  | one s =>
    have hl : sgL p (.one s) = (wOne, ((p + 1 : Nat) : Int)) :: (lpB, ((p + 4 : Nat) : Int)) :: [(s, ((p + 4 + 1 : Nat) : Int))] := rfl
    rw [hl]
    obtain ⟨h1, h2⟩ := first_cons r d (by omega) (wOne, ((p + 1 : Nat) : Int)) ((lpB, ((p + 4 : Nat) : Int)) :: [(s, ((p + 4 + 1 : Nat) : Int))]) he
    rw [termR, h1, h2]
    simp only
    rw [if_neg (by decide), if_pos trivial, mark_cons r lpB _ _ he]
    rw [(name_cons r s _ _ he hf).1]
  | give c =>
    simp only [C.depth] at hdd
    have hl : sgL p (.give c) = (wGive, ((p + 1 : Nat) : Int)) :: (lpB, ((p + 5 : Nat) : Int)) :: (sgC (p + 5) c ++ []) := by simp [sgL]
    rw [hl]
    obtain ⟨h1, h2⟩ := first_cons r d (by omega) (wGive, ((p + 1 : Nat) : Int)) ((lpB, ((p + 5 : Nat) : Int)) :: (sgC (p + 5) c ++ [])) he
    rw [termR, h1, h2]
    simp only
    rw [if_neg (by decide), if_neg (by decide), if_pos trivial, mark_cons r lpB _ _ he]
    unfold lastF
    simp only
    rw [term_back c hf f (d + 1) r (p + 5) _ (by omega) (by omega) he]
  | and a b =>
    simp only [formC, Bool.and_eq_true] at hf
    simp only [C.depth] at hdd
    have hl : sgL p (.and a b) = (wAnd, ((p + 1 : Nat) : Int)) :: (lpB, ((p + 4 : Nat) : Int)) :: (sgC (p + 4) a ++ (cmB, ((p + 4 + (rnC a).length + 1 : Nat) : Int)) :: (sgC (p + 4 + (rnC a).length + 1) b ++ [])) := by simp [sgL]
    rw [hl]
    obtain ⟨h1, h2⟩ := first_cons r d (by omega) (wAnd, ((p + 1 : Nat) : Int)) ((lpB, ((p + 4 : Nat) : Int)) :: (sgC (p + 4) a ++ (cmB, ((p + 4 + (rnC a).length + 1 : Nat) : Int)) :: (sgC (p + 4 + (rnC a).length + 1) b ++ []))) he
    rw [termR, h1, h2]
    simp only
    rw [if_neg (by decide), if_neg (by decide), if_neg (by decide), if_pos trivial, mark_cons r lpB _ _ he]
    unfold lastsF lastF
    simp only
    rw [term_back a hf.1 f (d + 1) r (p + 4) _ (by omega) (by omega) he]
    simp only
    rw [mark_cons r cmB _ _ he]
    rw [term_back b hf.2 f (d + 1) r (p + 4 + (rnC a).length + 1) _ (by omega) (by omega) he]
  | or s a b =>
    simp only [formC, Bool.and_eq_true] at hf
    simp only [C.depth] at hdd
    have hl : sgL p (.or s a b) = (wOr, ((p + 1 : Nat) : Int)) :: (lpB, ((p + 3 : Nat) : Int)) :: ((s, ((p + 3 + 1 : Nat) : Int)) :: (cmB, ((p + 3 + (runesOf s).length + 1 : Nat) : Int)) :: (sgC (p + 3 + (runesOf s).length + 1) a ++ (cmB, ((p + 3 + (runesOf s).length + 1 + (rnC a).length + 1 : Nat) : Int)) :: (sgC (p + 3 + (runesOf s).length + 1 + (rnC a).length + 1) b ++ []))) := by simp [sgL]
    rw [hl]
    obtain ⟨h1, h2⟩ := first_cons r d (by omega) (wOr, ((p + 1 : Nat) : Int)) ((lpB, ((p + 3 : Nat) : Int)) :: ((s, ((p + 3 + 1 : Nat) : Int)) :: (cmB, ((p + 3 + (runesOf s).length + 1 : Nat) : Int)) :: (sgC (p + 3 + (runesOf s).length + 1) a ++ (cmB, ((p + 3 + (runesOf s).length + 1 + (rnC a).length + 1 : Nat) : Int)) :: (sgC (p + 3 + (runesOf s).length + 1 + (rnC a).length + 1) b ++ [])))) he
    rw [termR, h1, h2]
    simp only
    rw [if_neg (by decide), if_neg (by decide), if_neg (by decide), if_neg (by decide), if_pos trivial, mark_cons r lpB _ _ he]
    rw [(name_cons r s _ _ he hf.1.1).1, mark_cons r cmB _ _ he]
    unfold lastsF lastF
    simp only
    rw [term_back a hf.1.2 f (d + 1) r (p + 3 + (runesOf s).length + 1) _ (by omega) (by omega) he]
    simp only
    rw [mark_cons r cmB _ _ he]
    rw [term_back b hf.2 f (d + 1) r (p + 3 + (runesOf s).length + 1 + (rnC a).length + 1) _ (by omega) (by omega) he]
  | scale o c =>
    simp only [formC, Bool.and_eq_true] at hf
    simp only [C.depth] at hdd
    have hl : sgL p (.scale o c) = (wScale, ((p + 1 : Nat) : Int)) :: (lpB, ((p + 6 : Nat) : Int)) :: (sgO (p + 6) o ++ (cmB, ((p + 6 + (rnO o).length + 1 : Nat) : Int)) :: (sgC (p + 6 + (rnO o).length + 1) c ++ [])) := by simp [sgL]
    rw [hl]
    obtain ⟨h1, h2⟩ := first_cons r d (by omega) (wScale, ((p + 1 : Nat) : Int)) ((lpB, ((p + 6 : Nat) : Int)) :: (sgO (p + 6) o ++ (cmB, ((p + 6 + (rnO o).length + 1 : Nat) : Int)) :: (sgC (p + 6 + (rnO o).length + 1) c ++ []))) he
    rw [termR, h1, h2]
    simp only
    rw [if_neg (by decide), if_neg (by decide), if_neg (by decide), if_neg (by decide), if_neg (by decide), if_pos trivial, mark_cons r lpB _ _ he]
    rw [obs_back o hf.1 f (d + 1) r (p + 6) _ (by omega) (by omega) he]
    simp only
    rw [mark_cons r cmB _ _ he]
    unfold lastF
    simp only
    rw [term_back c hf.2 f (d + 1) r (p + 6 + (rnO o).length + 1) _ (by omega) (by omega) he]
  | when n c =>
    simp only [formC, Bool.and_eq_true] at hf
    simp only [C.depth] at hdd
    have hl : sgL p (.when n c) = (wWhen, ((p + 1 : Nat) : Int)) :: (lpB, ((p + 5 : Nat) : Int)) :: ((numB n, ((p + 5 + 1 : Nat) : Int)) :: (cmB, ((p + 5 + (rnN n).length + 1 : Nat) : Int)) :: (sgC (p + 5 + (rnN n).length + 1) c ++ [])) := by simp [sgL]
    rw [hl]
    obtain ⟨h1, h2⟩ := first_cons r d (by omega) (wWhen, ((p + 1 : Nat) : Int)) ((lpB, ((p + 5 : Nat) : Int)) :: ((numB n, ((p + 5 + 1 : Nat) : Int)) :: (cmB, ((p + 5 + (rnN n).length + 1 : Nat) : Int)) :: (sgC (p + 5 + (rnN n).length + 1) c ++ []))) he
    rw [termR, h1, h2]
    simp only
    rw [if_neg (by decide), if_neg (by decide), if_neg (by decide), if_neg (by decide), if_neg (by decide), if_neg (by decide), if_pos trivial, mark_cons r lpB _ _ he]
    rw [(day_cons r n _ _ he hf.1).1, mark_cons r cmB _ _ he]
    unfold lastF
    simp only
    rw [term_back c hf.2 f (d + 1) r (p + 5 + (rnN n).length + 1) _ (by omega) (by omega) he]
  | iff o a b =>
    simp only [formC, Bool.and_eq_true] at hf
    simp only [C.depth] at hdd
    have hl : sgL p (.iff o a b) = (wIf, ((p + 1 : Nat) : Int)) :: (lpB, ((p + 3 : Nat) : Int)) :: (sgO (p + 3) o ++ (cmB, ((p + 3 + (rnO o).length + 1 : Nat) : Int)) :: (sgC (p + 3 + (rnO o).length + 1) a ++ (cmB, ((p + 3 + (rnO o).length + 1 + (rnC a).length + 1 : Nat) : Int)) :: (sgC (p + 3 + (rnO o).length + 1 + (rnC a).length + 1) b ++ []))) := by simp [sgL]
    rw [hl]
    obtain ⟨h1, h2⟩ := first_cons r d (by omega) (wIf, ((p + 1 : Nat) : Int)) ((lpB, ((p + 3 : Nat) : Int)) :: (sgO (p + 3) o ++ (cmB, ((p + 3 + (rnO o).length + 1 : Nat) : Int)) :: (sgC (p + 3 + (rnO o).length + 1) a ++ (cmB, ((p + 3 + (rnO o).length + 1 + (rnC a).length + 1 : Nat) : Int)) :: (sgC (p + 3 + (rnO o).length + 1 + (rnC a).length + 1) b ++ [])))) he
    rw [termR, h1, h2]
    simp only
    rw [if_neg (by decide), if_neg (by decide), if_neg (by decide), if_neg (by decide), if_neg (by decide), if_neg (by decide), if_neg (by decide), if_pos trivial, mark_cons r lpB _ _ he]
    rw [obs_back o hf.1.1 f (d + 1) r (p + 3) _ (by omega) (by omega) he]
    simp only
    rw [mark_cons r cmB _ _ he]
    unfold lastsF lastF
    simp only
    rw [term_back a hf.1.2 f (d + 1) r (p + 3 + (rnO o).length + 1) _ (by omega) (by omega) he]
    simp only
    rw [mark_cons r cmB _ _ he]
    rw [term_back b hf.2 f (d + 1) r (p + 3 + (rnO o).length + 1 + (rnC a).length + 1) _ (by omega) (by omega) he]
theorem open_of (s : ByteArray) (rs : List Int) (l : List Rn.Sg) (hs : runesOf s = rs) (hz : s.size ≤ 1000) (hok : rs.all Rn.okR = true) (hl : Rn.cutGo [] [] 0 rs = l) : openR s = (⟨[], (rs.length : Int) + 1, 0, 0⟩ : RS).put l := by
  have hb : Rn.badOf s = 0 := by unfold Rn.badOf; rw [hs]; exact bad_none _ (List.all_eq_true.1 hok) 0
  have hsg : Rn.sgOf s = l := by unfold Rn.sgOf; rw [hs]; exact hl
  unfold openR
  rw [if_neg (by omega), if_neg (by simpa using hb), hsg, hs]
  rfl
theorem rdT_lack (c : C) (hf : formC c = true) (hd : c.depth ≤ 12) (hz : c.isZero = false) (rs : List Int) (hrs : rnC c = rs ++ [41]) (s : ByteArray) (hs : runesOf s = rs) (hsz : s.size ≤ 1000) : (rdT s).2.1 = (rs.length : Int) + 1 ∧ (rdT s).2.2 = 2 := by
  obtain ⟨q, hq⟩ := sgL_snoc 0 c hf hz
  have hcut : Rn.cutGo [] [] 0 rs = sgL 0 c := by
    have h1 := cut_behind 41 j41 m41 rs [] [] 0
    rw [← hrs, cutC_all c hf, hq] at h1
    exact (List.append_inj' h1 rfl).1.symm
  have hok : rs.all Rn.okR = true := by
    have := rnC_all c hf
    rw [hrs, List.all_append, Bool.and_eq_true] at this
    exact this.1
  have ho := open_of s rs _ hs hsz hok hcut
  have ht := term_lack c hf hz 14 1 ⟨[], (rs.length : Int) + 1, 0, 0⟩ 0 rfl (by omega) rfl
  obtain ⟨m1, m2⟩ := mark_none ⟨[], (rs.length : Int) + 1, 0, 0⟩ rfl
  have hne : (markR ((⟨[], (rs.length : Int) + 1, 0, 0⟩ : RS).put []) rpB).e ≠ 0 := by rw [m1]; decide
  unfold rdT
  rw [ho, ht, dead_end _ hne, if_neg hne]
  exact ⟨m2, m1⟩
theorem end_more (r : RS) (t : ByteArray) (q : Int) (h : r.e = 0) (ht : t ≠ ⟨#[]⟩) : (endRd (r.put [(t, q)])).e = 2 ∧ (endRd (r.put [(t, q)])).pl = q := by
  obtain ⟨h1, h2⟩ := take_cons (r := r.put [(t, q)]) (a := (t, q)) (l := []) h rfl
  unfold endRd
  rw [h1, h2]
  unfold fitR refuseR
  rw [if_neg (by simpa using ht), if_pos (by exact h)]
  exact ⟨rfl, rfl⟩
theorem rdT_rest (c : C) (hf : formC c = true) (hd : c.depth ≤ 12) (s : ByteArray) (past : Int) (t : ByteArray) (q : Int) (ht : t ≠ ⟨#[]⟩) (ho : openR s = (⟨[], past, 0, 0⟩ : RS).put (sgC 0 c ++ [(t, q)])) : (rdT s).2.1 = q ∧ (rdT s).2.2 = 2 := by
  have hb := term_back c hf 14 1 ⟨[], past, 0, 0⟩ 0 [(t, q)] rfl (by omega) rfl
  obtain ⟨m1, m2⟩ := end_more ⟨[], past, 0, 0⟩ t q rfl ht
  have hne : (endRd ((⟨[], past, 0, 0⟩ : RS).put [(t, q)])).e ≠ 0 := by rw [m1]; decide
  unfold rdT
  rw [ho, hb]
  simp only
  rw [if_neg hne]
  exact ⟨m2, m1⟩
theorem cut_blank (ws : List Int) : ∀ (l : List Rn.Sg) (run : List Int) (p : Nat) (rs : List Int), Rn.cutGo l run p (ws ++ 32 :: rs) = Rn.cutGo (Rn.cutGo l run p ws) [] (p + ws.length + 1) rs := by
  induction ws with
  | nil => intro l run p rs; rw [List.nil_append, Rn.cutGo_skip l run p 32 rs (by decide) (by decide)]; rfl
  | cons x ws ih =>
    intro l run p rs
    have e : p + 1 + ws.length + 1 = p + (x :: ws).length + 1 := by simp only [List.length_cons]; omega
    rw [List.cons_append]
    cases h1 : Rn.joinB x with
    | true => rw [Rn.cutGo_join l run p x _ h1, Rn.cutGo_join l run p x _ h1, ih, e]
    | false =>
      cases h2 : Rn.markB x with
      | true => rw [Rn.cutGo_mark l run p x _ h1 h2, Rn.cutGo_mark l run p x _ h1 h2, ih, e]
      | false => rw [Rn.cutGo_skip l run p x _ h1 h2, Rn.cutGo_skip l run p x _ h1 h2, ih, e]
theorem rdT_more (c : C) (hf : formC c = true) (hd : c.depth ≤ 12) (s : ByteArray) (hs : runesOf s = rnC c ++ [41]) (hsz : s.size ≤ 1000) : (rdT s).2.1 = ((rnC c).length : Int) + 1 ∧ (rdT s).2.2 = 2 := by
  have hcut : Rn.cutGo [] [] 0 (rnC c ++ [41]) = sgC 0 c ++ [(rpB, ((0 + (rnC c).length + 1 : Nat) : Int))] := by rw [cut_behind 41 j41 m41, cutC_all c hf, enc_rp]
  have ho := open_of s _ _ hs hsz (all_app (rnC_all c hf) (by decide)) hcut
  have h := rdT_rest c hf hd s _ rpB _ (by decide) ho
  exact ⟨by rw [h.1]; omega, h.2⟩
theorem rdT_blank (c : C) (hf : formC c = true) (hd : c.depth ≤ 12) (s : ByteArray) (hs : runesOf s = rnC c ++ [32, 44]) (hsz : s.size ≤ 1000) : (rdT s).2.1 = ((rnC c).length : Int) + 2 ∧ (rdT s).2.2 = 2 := by
  have hcut : Rn.cutGo [] [] 0 (rnC c ++ [32, 44]) = sgC 0 c ++ [(cmB, ((0 + (rnC c).length + 1 + 1 : Nat) : Int))] := by rw [cut_blank, cutC_all c hf, cut_mark _ _ 44 [] j44 m44, enc_cm]; rfl
  have ho := open_of s _ _ hs hsz (all_app (rnC_all c hf) (by decide)) hcut
  have h := rdT_rest c hf hd s _ cmB _ (by decide) ho
  exact ⟨by rw [h.1]; omega, h.2⟩
theorem rnC_last (x : C) (hf : formC x = true) (hz : x.isZero = false) : ∃ rs, rnC x = rs ++ [41] := by
  cases x with
  | odd v => cases hf
  | zero => cases hz
  | one s => exact ⟨[111, 110, 101, 40] ++ (runesOf s), by simp [rnC]⟩
  | give c => exact ⟨[103, 105, 118, 101, 40] ++ (rnC c), by simp [rnC]⟩
  | and a b => exact ⟨[97, 110, 100, 40] ++ ((rnC a) ++ 44 :: (rnC b)), by simp [rnC]⟩
  | or s a b => exact ⟨[111, 114, 40] ++ ((runesOf s) ++ 44 :: ((rnC a) ++ 44 :: (rnC b))), by simp [rnC]⟩
  | scale o c => exact ⟨[115, 99, 97, 108, 101, 40] ++ ((rnO o) ++ 44 :: (rnC c)), by simp [rnC]⟩
  | when n c => exact ⟨[119, 104, 101, 110, 40] ++ ((rnN n) ++ 44 :: (rnC c)), by simp [rnC]⟩
  | iff o a b => exact ⟨[105, 102, 40] ++ ((rnO o) ++ 44 :: ((rnC a) ++ 44 :: (rnC b))), by simp [rnC]⟩

end Go.Proofs.YtfmjjfpajohihaaGreatDoor
namespace Go.Proofs.YtfmjjfpajohihaaGreatDoor
open Go.RowKit
set_option linter.unusedVariables false

theorem rb_app (a b : List Int) : (runesBytes (a ++ b)).data.toList = (runesBytes a).data.toList ++ (runesBytes b).data.toList := by rw [Rn.runesBytes_append]; simp
theorem rb_cons (x : Int) (b : List Int) : (runesBytes (x :: b)).data.toList = (Utf8.encode x).data.toList ++ (runesBytes b).data.toList := by rw [Rn.runesBytes_cons]; simp
theorem rb_nil : (runesBytes []).data.toList = [] := by simp [runesBytes]
theorem rb_44 (b : List Int) : (runesBytes (44 :: b)).data.toList = 44 :: (runesBytes b).data.toList := by rw [rb_cons, enc_cm]; rfl
theorem rb_41 : (runesBytes [41]).data.toList = [41] := by decide +kernel
theorem rb_num (n : Int) : (runesBytes (rnN n)).data.toList = (numT n).data.toList := by rw [(itoa_join n).2.2]; rfl
theorem rb_name (s : ByteArray) (h : nameGo 0 (runesOf s) = true) : (runesBytes (runesOf s)).data.toList = s.data.toList := by rw [(name_join s h).2.2]
theorem rbO (x : O) (hf : formB x = true) : (runesBytes (rnO x)).data.toList = (textO x).data.toList := by
  induction x with
  | odd v => cases hf
  | const n => exact rb_num n
  | fix s =>
    simp only [rnO, textO]
    rw [joinL_1, rb_app, rb_app, rb_41, rb_name s hf, show (runesBytes [102, 105, 120, 40]).data.toList = [102, 105, 120, 40] from by decide +kernel]; simp
  | neg o ih =>
    simp only [rnO, textO]
    rw [joinL_1, rb_app, rb_app, rb_41, ih hf, show (runesBytes [110, 101, 103, 40]).data.toList = [110, 101, 103, 40] from by decide +kernel]; simp
  | add a b iha ihb =>
    simp only [formB, Bool.and_eq_true] at hf
    simp only [rnO, textO]
    rw [joinL_2, rb_app, rb_app, rb_44, rb_app, rb_41, iha hf.1, ihb hf.2, show (runesBytes [97, 100, 100, 40]).data.toList = [97, 100, 100, 40] from by decide +kernel]; simp
  | mul a b iha ihb =>
    simp only [formB, Bool.and_eq_true] at hf
    simp only [rnO, textO]
    rw [joinL_2, rb_app, rb_app, rb_44, rb_app, rb_41, iha hf.1, ihb hf.2, show (runesBytes [109, 117, 108, 40]).data.toList = [109, 117, 108, 40] from by decide +kernel]; simp
  | max a b iha ihb =>
    simp only [formB, Bool.and_eq_true] at hf
    simp only [rnO, textO]
    rw [joinL_2, rb_app, rb_app, rb_44, rb_app, rb_41, iha hf.1, ihb hf.2, show (runesBytes [109, 97, 120, 40]).data.toList = [109, 97, 120, 40] from by decide +kernel]; simp
theorem rbC (x : C) (hf : formC x = true) : (runesBytes (rnC x)).data.toList = (textC x).data.toList := by
  induction x with
  | odd v => cases hf
  | zero => decide +kernel
  | one s =>
    simp only [rnC, textC]
    rw [joinL_1, rb_app, rb_app, rb_41, rb_name s hf, show (runesBytes [111, 110, 101, 40]).data.toList = [111, 110, 101, 40] from by decide +kernel]; simp
  | give c ih =>
    simp only [rnC, textC]
    rw [joinL_1, rb_app, rb_app, rb_41, ih hf, show (runesBytes [103, 105, 118, 101, 40]).data.toList = [103, 105, 118, 101, 40] from by decide +kernel]; simp
  | and a b iha ihb =>
    simp only [formC, Bool.and_eq_true] at hf
    simp only [rnC, textC]
    rw [joinL_2, rb_app, rb_app, rb_44, rb_app, rb_41, iha hf.1, ihb hf.2, show (runesBytes [97, 110, 100, 40]).data.toList = [97, 110, 100, 40] from by decide +kernel]; simp
  | or s a b iha ihb =>
    simp only [formC, Bool.and_eq_true] at hf
    simp only [rnC, textC]
    rw [joinL_3, rb_app, rb_app, rb_44, rb_app, rb_44, rb_app, rb_41, rb_name s hf.1.1, iha hf.1.2, ihb hf.2, show (runesBytes [111, 114, 40]).data.toList = [111, 114, 40] from by decide +kernel]; simp
  | scale o c ih =>
    simp only [formC, Bool.and_eq_true] at hf
    simp only [rnC, textC]
    rw [joinL_2, rb_app, rb_app, rb_44, rb_app, rb_41, rbO o hf.1, ih hf.2, show (runesBytes [115, 99, 97, 108, 101, 40]).data.toList = [115, 99, 97, 108, 101, 40] from by decide +kernel]; simp
  | when n c ih =>
    simp only [formC, Bool.and_eq_true] at hf
    simp only [rnC, textC]
    rw [joinL_2, rb_app, rb_app, rb_44, rb_app, rb_41, rb_num n, ih hf.2, show (runesBytes [119, 104, 101, 110, 40]).data.toList = [119, 104, 101, 110, 40] from by decide +kernel]; simp
  | iff o a b iha ihb =>
    simp only [formC, Bool.and_eq_true] at hf
    simp only [rnC, textC]
    rw [joinL_3, rb_app, rb_app, rb_44, rb_app, rb_44, rb_app, rb_41, rbO o hf.1.1, iha hf.1.2, ihb hf.2, show (runesBytes [105, 102, 40]).data.toList = [105, 102, 40] from by decide +kernel]; simp
theorem vapp {a b : List Int} (ha : a.all (Utf8.valid ·) = true) (hb : b.all (Utf8.valid ·) = true) : (a ++ b).all (Utf8.valid ·) = true := by rw [List.all_append, ha, hb]; rfl
theorem vcm {b : List Int} (hb : b.all (Utf8.valid ·) = true) : (44 :: b).all (Utf8.valid ·) = true := by rw [List.all_cons, hb]; decide
theorem vrest (s : ByteArray) : ∀ d pos, s.size ≤ pos + d → (rest s pos).all (Utf8.valid ·) = true := by
  intro d
  induction d with
  | zero => intro pos h; rw [rest_end s pos (by omega)]; rfl
  | succ d ih =>
    intro pos h
    by_cases hp : pos < s.size
    · rw [rest_step s pos hp, List.all_cons, Rn.decode_valid s pos]
      have := width_pos s pos hp
      rw [ih _ (by omega)]; rfl
    · rw [rest_end s pos hp]; rfl
theorem vname (s : ByteArray) : (runesOf s).all (Utf8.valid ·) = true := vrest s s.size 0 (by omega)
theorem vnum (n : Int) : (rnN n).all (Utf8.valid ·) = true := by
  rw [List.all_eq_true]
  intro x hx
  obtain ⟨b, hb, rfl⟩ := List.mem_map.1 hx
  have := b.toNat_lt
  simp [Utf8.valid]; omega
theorem vO (x : O) : (rnO x).all (Utf8.valid ·) = true := by
  induction x with
  | odd v => rfl
  | const n => exact vnum n
  | fix s => exact vapp (by decide) (vapp (vname s) (by decide))
  | neg o ih => exact vapp (by decide) (vapp ih (by decide))
  | add a b iha ihb => exact vapp (by decide) (vapp iha (vcm (vapp ihb (by decide))))
  | mul a b iha ihb => exact vapp (by decide) (vapp iha (vcm (vapp ihb (by decide))))
  | max a b iha ihb => exact vapp (by decide) (vapp iha (vcm (vapp ihb (by decide))))
theorem vC (x : C) : (rnC x).all (Utf8.valid ·) = true := by
  induction x with
  | odd v => rfl
  | zero => decide
  | one s => exact vapp (by decide) (vapp (vname s) (by decide))
  | give c ih => exact vapp (by decide) (vapp ih (by decide))
  | and a b iha ihb => exact vapp (by decide) (vapp iha (vcm (vapp ihb (by decide))))
  | or s a b iha ihb => exact vapp (by decide) (vapp (vname s) (vcm (vapp iha (vcm (vapp ihb (by decide))))))
  | scale o c ih => exact vapp (by decide) (vapp (vO o) (vcm (vapp ih (by decide))))
  | when n c ih => exact vapp (by decide) (vapp (vnum n) (vcm (vapp ih (by decide))))
  | iff o a b iha ihb => exact vapp (by decide) (vapp (vO o) (vcm (vapp iha (vcm (vapp ihb (by decide))))))
theorem runes_of (s : ByteArray) (rs : List Int) (hv : rs.all (Utf8.valid ·) = true) (h : s.data.toList = (runesBytes rs).data.toList) : runesOf s = rs := by
  rw [ba_x h]
  exact Rn.runesOf_all rs (fun r hr => List.all_eq_true.1 hv r hr)
/-- T6: a contract's text is read as that contract. -/
theorem read_write (c : C) (hc : chkC c = 0) (hz : (textC c).size ≤ 1000) : rdT (textC c) = (c, 0, 0) := by
  have h := chkC_zero hc
  exact rdT_back c hc h.1 h.2.2.1 _ (runes_of _ _ (vC c) (rbC c h.1).symm) hz
theorem read_writeO (x : O) (hc : chk x = 0) (hz : (textO x).size ≤ 1000) : rdO (textO x) = (x, 0, 0) := by
  have h := chk_zero hc
  exact rdO_back x hc h.1 h.2.2 _ (runes_of _ _ (vO x) (rbO x h.1).symm) hz
theorem take_list (s : ByteArray) (k : Nat) (h : k ≤ s.size) : (s.extract 0 k).data.toList = s.data.toList.take k := by
  simp [ByteArray.data_extract]
/-- What read.Term answers of a contract's text without its last byte, with one more, with two more. -/
theorem ends_of (c : C) (hc : chkC c = 0) (hz : (textC c).size ≤ 998) (h0 : c.isZero = false) :
    ((rdT ((textC c).extract 0 ((textC c).size - 1))).2.1 = ((rnC c).length : Int) ∧ (rdT ((textC c).extract 0 ((textC c).size - 1))).2.2 = 2) ∧
    ((rdT (textC c ++ ⟨#[41]⟩)).2.1 = ((rnC c).length : Int) + 1 ∧ (rdT (textC c ++ ⟨#[41]⟩)).2.2 = 2) ∧
    ((rdT (textC c ++ ⟨#[32, 44]⟩)).2.1 = ((rnC c).length : Int) + 2 ∧ (rdT (textC c ++ ⟨#[32, 44]⟩)).2.2 = 2) := by
  have h := chkC_zero hc
  have hb := rbC c h.1
  obtain ⟨rs, hrs⟩ := rnC_last c h.1 h0
  have hv := vC c
  have hvr : rs.all (Utf8.valid ·) = true := by
    rw [hrs, List.all_append, Bool.and_eq_true] at hv
    exact hv.1
  have hl : (textC c).data.toList = (runesBytes rs).data.toList ++ [41] := by rw [← hb, hrs, rb_app, rb_41]
  have hsz : (textC c).size = (runesBytes rs).size + 1 := by
    have := congrArg List.length hl
    simpa using this
  refine ⟨?_, ?_, ?_⟩
  · have h1 := rdT_lack c h.1 h.2.2.1 h0 rs hrs ((textC c).extract 0 ((textC c).size - 1)) (runes_of _ _ hvr (by
      rw [take_list _ _ (by omega), hl, hsz, Nat.add_sub_cancel]
      have hlen : (runesBytes rs).size = (runesBytes rs).data.toList.length := by simp
      rw [hlen, List.take_left])) (by rw [ByteArray.size_extract]; omega)
    refine ⟨?_, h1.2⟩
    rw [h1.1, hrs]
    simp
  · exact rdT_more c h.1 h.2.2.1 _ (runes_of _ _ (vapp hv (by decide)) (by rw [rb_app, rb_41, hb]; simp)) (by rw [ByteArray.size_append]; have : (ByteArray.mk #[41]).size = 1 := rfl; omega)
  · exact rdT_blank c h.1 h.2.2.1 _ (runes_of _ _ (vapp hv (by decide)) (by rw [rb_app, hb, show (runesBytes [32, 44]).data.toList = [32, 44] from by decide +kernel]; simp)) (by rw [ByteArray.size_append]; have : (ByteArray.mk #[32, 44]).size = 2 := rfl; omega)

end Go.Proofs.YtfmjjfpajohihaaGreatDoor
namespace Go.Proofs.YtfmjjfpajohihaaGreatDoor
open Go.RowKit
set_option linter.unusedVariables false

/-- The signs' texts. -/
def tkO : O → List ByteArray
  | .const n => [numB n]
  | .fix s => wFix :: lpB :: ([s] ++ [rpB])
  | .add a b => wAdd :: lpB :: (tkO a ++ cmB :: (tkO b ++ [rpB]))
  | .neg x => wNeg :: lpB :: (tkO x ++ [rpB])
  | .mul a b => wMul :: lpB :: (tkO a ++ cmB :: (tkO b ++ [rpB]))
  | .max a b => wMax :: lpB :: (tkO a ++ cmB :: (tkO b ++ [rpB]))
  | .odd _ => []
def tkC : C → List ByteArray
  | .zero => [wZero]
  | .one s => wOne :: lpB :: ([s] ++ [rpB])
  | .give c => wGive :: lpB :: (tkC c ++ [rpB])
  | .and a b => wAnd :: lpB :: (tkC a ++ cmB :: (tkC b ++ [rpB]))
  | .or s a b => wOr :: lpB :: ([s] ++ cmB :: (tkC a ++ cmB :: (tkC b ++ [rpB])))
  | .scale o c => wScale :: lpB :: (tkO o ++ cmB :: (tkC c ++ [rpB]))
  | .when n c => wWhen :: lpB :: ([numB n] ++ cmB :: (tkC c ++ [rpB]))
  | .iff o a b => wIf :: lpB :: (tkO o ++ cmB :: (tkC a ++ cmB :: (tkC b ++ [rpB])))
  | .odd _ => []
/-- Signs of these texts, at these places. -/
def ptk (pl : Nat → Int) : Nat → List ByteArray → List Rn.Sg
  | _, [] => []
  | i, t :: ts => (t, pl i) :: ptk pl (i + 1) ts
theorem ptk_append (pl : Nat → Int) (a : List ByteArray) : ∀ (i : Nat) (b : List ByteArray), ptk pl i (a ++ b) = ptk pl i a ++ ptk pl (i + a.length) b := by
  induction a with
  | nil => intro i b; simp [ptk]
  | cons x a ih => intro i b; simp only [List.cons_append, ptk, ih, List.length_cons]; rw [show i + 1 + a.length = i + (a.length + 1) by omega]
/-- Any signs are those of their texts, at their places. -/
theorem ptk_of (l : List Rn.Sg) : ∀ (pl : Nat → Int) (i : Nat), (∀ j x, l[j]? = some x → pl (i + j) = x.2) → ptk pl i (l.map (·.1)) = l := by
  induction l with
  | nil => intro pl i _; rfl
  | cons x l ih =>
    intro pl i h
    have h0 := h 0 x rfl
    simp only [List.map_cons, ptk]
    rw [ih pl (i + 1) (fun j y hj => by have := h (j + 1) y (by simpa using hj); rw [← this]; congr 1; omega), show pl i = x.2 from h0]
theorem sgO_tk (x : O) : ∀ p, (sgO p x).map (·.1) = tkO x := by
  induction x with
  | odd v => intro p; rfl
  | const n => intro p; rfl
  | fix s => intro p; simp [sgO, tkO]
  | add a b ih1 ih2 => intro p; simp [sgO, tkO, ih1, ih2]
  | neg x ih1 => intro p; simp [sgO, tkO, ih1]
  | mul a b ih1 ih2 => intro p; simp [sgO, tkO, ih1, ih2]
  | max a b ih1 ih2 => intro p; simp [sgO, tkO, ih1, ih2]
theorem sgC_tk (x : C) : ∀ p, (sgC p x).map (·.1) = tkC x := by
  induction x with
  | odd v => intro p; rfl
  | zero => intro p; rfl
  | one s => intro p; simp [sgC, tkC]
  | give c ih1 => intro p; simp [sgC, tkC, ih1]
  | and a b ih1 ih2 => intro p; simp [sgC, tkC, ih1, ih2]
  | or s a b ih1 ih2 => intro p; simp [sgC, tkC, ih1, ih2]
  | scale o c ih1 => intro p; simp [sgC, tkC, ih1, sgO_tk]
  | when n c ih1 => intro p; simp [sgC, tkC, ih1]
  | iff o a b ih1 ih2 => intro p; simp [sgC, tkC, ih1, ih2, sgO_tk]
theorem obs_backP (pl : Nat → Int) (x : O) (hf : formB x = true) : ∀ (f d : Nat) (r : RS) (i : Nat) (rest : List Rn.Sg), d + f = 15 → d + x.depth ≤ 13 → r.e = 0 → obsR f (r.put (ptk pl i (tkO x) ++ rest)) d = (x, r.put rest) := by
  have hd1 := depth1 x hf
  induction x with
  | odd v => cases hf
  | const n =>
    intro f d r i rest hdf hdd he
    obtain ⟨f, rfl⟩ : ∃ g, f = g + 1 := ⟨f - 1, by omega⟩
    have hnum : Rn.numOf (numB n).data.toList = (n, true) := by
      have : (numB n).data.toList = Lib.itoa n := by simp [numB]
      rw [this, numOf_itoa n hf]
    simp only [tkO, ptk, List.cons_append, List.nil_append]
    rw [obsR, (first_cons r d (by omega) _ _ he).1, (first_cons r d (by omega) _ _ he).2]
    simp only
    rw [if_neg (num_word n wFix 102 _ rfl (by decide)), if_neg (num_word n wAdd 97 _ rfl (by decide)), if_neg (num_word n wNeg 110 _ rfl (by decide)), if_neg (num_word n wMul 109 _ rfl (by decide)), if_neg (num_word n wMax 109 _ rfl (by decide)), hnum]
    rfl
  | fix s =>
    intro f d r i rest hdf hdd he
    obtain ⟨f, rfl⟩ : ∃ g, f = g + 1 := ⟨f - 1, by omega⟩
    simp only [tkO, ptk, List.cons_append, List.nil_append]
    rw [obsR, (first_cons r d (by omega) _ _ he).1, (first_cons r d (by omega) _ _ he).2]
    simp only
    rw [if_pos trivial]
    rw [mark_cons r lpB _ _ he, (name_cons r s _ _ he hf).1, (name_cons r s _ _ he hf).2, mark_cons r rpB _ _ he]
  | add a b ih1 ih2 =>
    intro f d r i rest hdf hdd he
    obtain ⟨f, rfl⟩ : ∃ g, f = g + 1 := ⟨f - 1, by omega⟩
    simp only [formB, Bool.and_eq_true] at hf
    simp only [O.depth] at hdd
    simp only [tkO, ptk, ptk_append, List.cons_append, List.nil_append, List.append_assoc]
    rw [obsR, (first_cons r d (by omega) _ _ he).1, (first_cons r d (by omega) _ _ he).2]
    simp only
    rw [if_neg (by decide), if_pos trivial]
    unfold pairF
    simp only
    rw [mark_cons r lpB _ _ he, ih1 hf.1 (depth1 a hf.1) f (d + 1) r _ _ (by omega) (by omega) he]
    simp only
    rw [mark_cons r cmB _ _ he, ih2 hf.2 (depth1 b hf.2) f (d + 1) r _ _ (by omega) (by omega) he]
    simp only
    rw [mark_cons r rpB _ _ he]
  | neg x ih1 =>
    intro f d r i rest hdf hdd he
    obtain ⟨f, rfl⟩ : ∃ g, f = g + 1 := ⟨f - 1, by omega⟩
    simp only [O.depth] at hdd
    simp only [tkO, ptk, ptk_append, List.cons_append, List.nil_append, List.append_assoc]
    rw [obsR, (first_cons r d (by omega) _ _ he).1, (first_cons r d (by omega) _ _ he).2]
    simp only
    rw [if_neg (by decide), if_neg (by decide), if_pos trivial]
    rw [mark_cons r lpB _ _ he, ih1 hf (depth1 x hf) f (d + 1) r _ _ (by omega) (by omega) he, mark_cons r rpB _ _ he]
  | mul a b ih1 ih2 =>
    intro f d r i rest hdf hdd he
    obtain ⟨f, rfl⟩ : ∃ g, f = g + 1 := ⟨f - 1, by omega⟩
    simp only [formB, Bool.and_eq_true] at hf
    simp only [O.depth] at hdd
    simp only [tkO, ptk, ptk_append, List.cons_append, List.nil_append, List.append_assoc]
    rw [obsR, (first_cons r d (by omega) _ _ he).1, (first_cons r d (by omega) _ _ he).2]
    simp only
    rw [if_neg (by decide), if_neg (by decide), if_neg (by decide), if_pos trivial]
    unfold pairF
    simp only
    rw [mark_cons r lpB _ _ he, ih1 hf.1 (depth1 a hf.1) f (d + 1) r _ _ (by omega) (by omega) he]
    simp only
    rw [mark_cons r cmB _ _ he, ih2 hf.2 (depth1 b hf.2) f (d + 1) r _ _ (by omega) (by omega) he]
    simp only
    rw [mark_cons r rpB _ _ he]
  | max a b ih1 ih2 =>
    intro f d r i rest hdf hdd he
    obtain ⟨f, rfl⟩ : ∃ g, f = g + 1 := ⟨f - 1, by omega⟩
    simp only [formB, Bool.and_eq_true] at hf
    simp only [O.depth] at hdd
    simp only [tkO, ptk, ptk_append, List.cons_append, List.nil_append, List.append_assoc]
    rw [obsR, (first_cons r d (by omega) _ _ he).1, (first_cons r d (by omega) _ _ he).2]
    simp only
    rw [if_neg (by decide), if_neg (by decide), if_neg (by decide), if_neg (by decide), if_pos trivial]
    unfold pairF
    simp only
    rw [mark_cons r lpB _ _ he, ih1 hf.1 (depth1 a hf.1) f (d + 1) r _ _ (by omega) (by omega) he]
    simp only
    rw [mark_cons r cmB _ _ he, ih2 hf.2 (depth1 b hf.2) f (d + 1) r _ _ (by omega) (by omega) he]
    simp only
    rw [mark_cons r rpB _ _ he]
theorem term_backP (pl : Nat → Int) (x : C) (hf : formC x = true) : ∀ (f d : Nat) (r : RS) (i : Nat) (rest : List Rn.Sg), d + f = 15 → d + x.depth ≤ 13 → r.e = 0 → termR f (r.put (ptk pl i (tkC x) ++ rest)) d = (x, r.put rest) := by
  have hd1 := cdepth1 x hf
  induction x with
  | odd v => cases hf
  | zero =>
    intro f d r i rest hdf hdd he
    obtain ⟨f, rfl⟩ : ∃ g, f = g + 1 := ⟨f - 1, by omega⟩
    simp only [tkC, ptk, List.cons_append, List.nil_append]
    rw [termR, (first_cons r d (by omega) _ _ he).1, (first_cons r d (by omega) _ _ he).2]
    simp only
    rw [if_pos trivial]
  | one s =>
    intro f d r i rest hdf hdd he
    obtain ⟨f, rfl⟩ : ∃ g, f = g + 1 := ⟨f - 1, by omega⟩
    simp only [tkC, ptk, List.cons_append, List.nil_append]
    rw [termR, (first_cons r d (by omega) _ _ he).1, (first_cons r d (by omega) _ _ he).2]
    simp only
    rw [if_neg (by decide), if_pos trivial, mark_cons r lpB _ _ he]
    rw [(name_cons r s _ _ he hf).1, (name_cons r s _ _ he hf).2, mark_cons r rpB _ _ he]
  | give c ih1 =>
    intro f d r i rest hdf hdd he
    obtain ⟨f, rfl⟩ : ∃ g, f = g + 1 := ⟨f - 1, by omega⟩
    simp only [C.depth] at hdd
    simp only [tkC, ptk, ptk_append, List.cons_append, List.nil_append, List.append_assoc]
    rw [termR, (first_cons r d (by omega) _ _ he).1, (first_cons r d (by omega) _ _ he).2]
    simp only
    rw [if_neg (by decide), if_neg (by decide), if_pos trivial, mark_cons r lpB _ _ he]
    unfold lastF
    simp only
    rw [ih1 hf (cdepth1 c hf) f (d + 1) r _ _ (by omega) (by omega) he]
    simp only
    rw [mark_cons r rpB _ _ he]
  | and a b ih1 ih2 =>
    intro f d r i rest hdf hdd he
    obtain ⟨f, rfl⟩ : ∃ g, f = g + 1 := ⟨f - 1, by omega⟩
    simp only [formC, Bool.and_eq_true] at hf
    simp only [C.depth] at hdd
    simp only [tkC, ptk, ptk_append, List.cons_append, List.nil_append, List.append_assoc]
    rw [termR, (first_cons r d (by omega) _ _ he).1, (first_cons r d (by omega) _ _ he).2]
    simp only
    rw [if_neg (by decide), if_neg (by decide), if_neg (by decide), if_pos trivial, mark_cons r lpB _ _ he]
    unfold lastsF lastF
    simp only
    rw [ih1 hf.1 (cdepth1 a hf.1) f (d + 1) r _ _ (by omega) (by omega) he]
    simp only
    rw [mark_cons r cmB _ _ he]
    rw [ih2 hf.2 (cdepth1 b hf.2) f (d + 1) r _ _ (by omega) (by omega) he]
    simp only
    rw [mark_cons r rpB _ _ he]
  | or s a b ih1 ih2 =>
    intro f d r i rest hdf hdd he
    obtain ⟨f, rfl⟩ : ∃ g, f = g + 1 := ⟨f - 1, by omega⟩
    simp only [formC, Bool.and_eq_true] at hf
    simp only [C.depth] at hdd
    simp only [tkC, ptk, ptk_append, List.cons_append, List.nil_append, List.append_assoc]
    rw [termR, (first_cons r d (by omega) _ _ he).1, (first_cons r d (by omega) _ _ he).2]
    simp only
    rw [if_neg (by decide), if_neg (by decide), if_neg (by decide), if_neg (by decide), if_pos trivial, mark_cons r lpB _ _ he]
    rw [(name_cons r s _ _ he hf.1.1).1, (name_cons r s _ _ he hf.1.1).2, mark_cons r cmB _ _ he]
    unfold lastsF lastF
    simp only
    rw [ih1 hf.1.2 (cdepth1 a hf.1.2) f (d + 1) r _ _ (by omega) (by omega) he]
    simp only
    rw [mark_cons r cmB _ _ he]
    rw [ih2 hf.2 (cdepth1 b hf.2) f (d + 1) r _ _ (by omega) (by omega) he]
    simp only
    rw [mark_cons r rpB _ _ he]
  | scale o c ih1 =>
    intro f d r i rest hdf hdd he
    obtain ⟨f, rfl⟩ : ∃ g, f = g + 1 := ⟨f - 1, by omega⟩
    simp only [formC, Bool.and_eq_true] at hf
    simp only [C.depth] at hdd
    simp only [tkC, ptk, ptk_append, List.cons_append, List.nil_append, List.append_assoc]
    rw [termR, (first_cons r d (by omega) _ _ he).1, (first_cons r d (by omega) _ _ he).2]
    simp only
    rw [if_neg (by decide), if_neg (by decide), if_neg (by decide), if_neg (by decide), if_neg (by decide), if_pos trivial, mark_cons r lpB _ _ he]
    rw [obs_backP pl o hf.1 f (d + 1) r _ _ (by omega) (by omega) he]
    simp only
    rw [mark_cons r cmB _ _ he]
    unfold lastF
    simp only
    rw [ih1 hf.2 (cdepth1 c hf.2) f (d + 1) r _ _ (by omega) (by omega) he]
    simp only
    rw [mark_cons r rpB _ _ he]
  | when n c ih1 =>
    intro f d r i rest hdf hdd he
    obtain ⟨f, rfl⟩ : ∃ g, f = g + 1 := ⟨f - 1, by omega⟩
    simp only [formC, Bool.and_eq_true] at hf
    simp only [C.depth] at hdd
    simp only [tkC, ptk, ptk_append, List.cons_append, List.nil_append, List.append_assoc]
    rw [termR, (first_cons r d (by omega) _ _ he).1, (first_cons r d (by omega) _ _ he).2]
    simp only
    rw [if_neg (by decide), if_neg (by decide), if_neg (by decide), if_neg (by decide), if_neg (by decide), if_neg (by decide), if_pos trivial, mark_cons r lpB _ _ he]
    rw [(day_cons r n _ _ he hf.1).1, (day_cons r n _ _ he hf.1).2, mark_cons r cmB _ _ he]
    unfold lastF
    simp only
    rw [ih1 hf.2 (cdepth1 c hf.2) f (d + 1) r _ _ (by omega) (by omega) he]
    simp only
    rw [mark_cons r rpB _ _ he]
  | iff o a b ih1 ih2 =>
    intro f d r i rest hdf hdd he
    obtain ⟨f, rfl⟩ : ∃ g, f = g + 1 := ⟨f - 1, by omega⟩
    simp only [formC, Bool.and_eq_true] at hf
    simp only [C.depth] at hdd
    simp only [tkC, ptk, ptk_append, List.cons_append, List.nil_append, List.append_assoc]
    rw [termR, (first_cons r d (by omega) _ _ he).1, (first_cons r d (by omega) _ _ he).2]
    simp only
    rw [if_neg (by decide), if_neg (by decide), if_neg (by decide), if_neg (by decide), if_neg (by decide), if_neg (by decide), if_neg (by decide), if_pos trivial, mark_cons r lpB _ _ he]
    rw [obs_backP pl o hf.1.1 f (d + 1) r _ _ (by omega) (by omega) he]
    simp only
    rw [mark_cons r cmB _ _ he]
    unfold lastsF lastF
    simp only
    rw [ih1 hf.1.2 (cdepth1 a hf.1.2) f (d + 1) r _ _ (by omega) (by omega) he]
    simp only
    rw [mark_cons r cmB _ _ he]
    rw [ih2 hf.2 (cdepth1 b hf.2) f (d + 1) r _ _ (by omega) (by omega) he]
    simp only
    rw [mark_cons r rpB _ _ he]

end Go.Proofs.YtfmjjfpajohihaaGreatDoor
namespace Go.Proofs.YtfmjjfpajohihaaGreatDoor
open Go.RowKit
set_option linter.unusedVariables false

/-- So many blanks. -/
def blk32 (k : Nat) : List Int := List.replicate k 32
/-- A text's runes, with blanks round its marks: so many round the n-th. -/
def spr (g : Nat → Nat) : Nat → List Int → List Int
  | _, [] => []
  | n, r :: rs => if Rn.markB r = true then blk32 (g n) ++ r :: (blk32 (g n) ++ spr g (n + 1) rs) else r :: spr g n rs
theorem end_texts (l : List Rn.Sg) (run : List Int) (e : Int) : (Rn.endR l run e).map (·.1) = l.map (·.1) ++ (if run = [] then [] else [runesBytes run]) := by
  unfold Rn.endR
  split <;> simp
theorem skip_blanks (k : Nat) : ∀ (l : List Rn.Sg) (p : Nat) (rs : List Int), Rn.cutGo l [] p (blk32 k ++ rs) = Rn.cutGo l [] (p + k) rs := by
  induction k with
  | zero => intro l p rs; rfl
  | succ k ih =>
    intro l p rs
    rw [show blk32 (k + 1) = 32 :: blk32 k from rfl, List.cons_append, Rn.cutGo_skip l [] p 32 _ (by decide) (by decide)]
    show Rn.cutGo l [] (p + 1) (blk32 k ++ rs) = _
    rw [ih, show p + 1 + k = p + (k + 1) by omega]
/-- The mark behind a run, with blanks ahead of it or without. -/
theorem mark_behind (k : Nat) (m : Int) (hj : Rn.joinB m = false) (hm : Rn.markB m = true) (l : List Rn.Sg) (run : List Int) (p : Nat) (rs : List Int) :
    ∃ l1 p1, Rn.cutGo l run p (blk32 k ++ m :: rs) = Rn.cutGo l1 [] p1 rs ∧ l1.map (·.1) = l.map (·.1) ++ (if run = [] then [] else [runesBytes run]) ++ [Utf8.encode m] := by
  cases k with
  | zero =>
    refine ⟨Rn.endR l run (p + 1 : Nat) ++ [(Utf8.encode m, ((p + 1 : Nat) : Int))], p + 1, ?_, ?_⟩
    · show Rn.cutGo l run p (m :: rs) = _
      exact Rn.cutGo_mark l run p m rs hj hm
    · rw [List.map_append, end_texts]; rfl
  | succ k =>
    refine ⟨Rn.endR l run (p + 1 : Nat) ++ [(Utf8.encode m, ((p + 1 + k + 1 : Nat) : Int))], p + 1 + k + 1, ?_, ?_⟩
    · rw [show blk32 (k + 1) = 32 :: blk32 k from rfl, List.cons_append, Rn.cutGo_skip l run p 32 _ (by decide) (by decide), skip_blanks, cut_mark _ _ m rs hj hm]
    · rw [List.map_append, end_texts]; rfl
theorem spr_texts (g : Nat → Nat) (rs : List Int) (hrs : ∀ r ∈ rs, Rn.joinB r = true ∨ (Rn.joinB r = false ∧ Rn.markB r = true)) : ∀ (n : Nat) (l l' : List Rn.Sg) (run : List Int) (p p' : Nat), l.map (·.1) = l'.map (·.1) →
    (Rn.cutGo l run p (spr g n rs)).map (·.1) = (Rn.cutGo l' run p' rs).map (·.1) := by
  induction rs with
  | nil =>
    intro n l l' run p p' h
    show (Rn.endR l run _).map (·.1) = (Rn.endR l' run _).map (·.1)
    rw [end_texts, end_texts, h]
  | cons r rs ih =>
    intro n l l' run p p' h
    have ih' := ih (fun x hx => hrs x (List.mem_cons_of_mem _ hx))
    rcases hrs r List.mem_cons_self with hj | ⟨hj, hm⟩
    · have hm : Rn.markB r = false := by
        cases hx : Rn.markB r with
        | false => rfl
        | true =>
          exfalso
          simp only [Rn.markB, Bool.or_eq_true, beq_iff_eq] at hx
          rcases hx with (e | e) | e <;> (subst e; exact absurd hj (by decide))
      simp only [spr]
      rw [if_neg (by rw [hm]; decide), Rn.cutGo_join l run p r _ hj, Rn.cutGo_join l' run p' r _ hj]
      exact ih' n l l' (run ++ [r]) (p + 1) (p' + 1) h
    · simp only [spr]
      rw [if_pos hm, Rn.cutGo_mark l' run p' r rs hj hm]
      obtain ⟨l1, p1, e1, t1⟩ := mark_behind (g n) r hj hm l run p (blk32 (g n) ++ spr g (n + 1) rs)
      rw [e1, skip_blanks]
      refine ih' (n + 1) _ _ [] _ _ ?_
      rw [t1, List.map_append, end_texts, h]
      rfl
theorem jm_app {a b : List Int} (ha : ∀ r ∈ a, Rn.joinB r = true ∨ (Rn.joinB r = false ∧ Rn.markB r = true)) (hb : ∀ r ∈ b, Rn.joinB r = true ∨ (Rn.joinB r = false ∧ Rn.markB r = true)) : ∀ r ∈ a ++ b, Rn.joinB r = true ∨ (Rn.joinB r = false ∧ Rn.markB r = true) := by
  intro r hr
  rcases List.mem_append.1 hr with h | h
  · exact ha r h
  · exact hb r h
theorem jm_of (r : Int) (h : Rn.okR r = true) (h32 : r ≠ 32) : Rn.joinB r = true ∨ (Rn.joinB r = false ∧ Rn.markB r = true) := by
  unfold Rn.okR at h
  cases hj : Rn.joinB r with
  | true => exact .inl rfl
  | false =>
    refine .inr ⟨rfl, ?_⟩
    rw [hj] at h
    simpa [h32] using h
theorem spr_ok (g : Nat → Nat) (rs : List Int) (h : rs.all Rn.okR = true) : ∀ n, (spr g n rs).all Rn.okR = true := by
  have hb : ∀ k, (blk32 k).all Rn.okR = true := by
    intro k
    rw [List.all_eq_true]
    intro r hr
    have := List.eq_of_mem_replicate hr
    subst this
    decide
  induction rs with
  | nil => intro n; rfl
  | cons r rs ih =>
    intro n
    rw [List.all_cons, Bool.and_eq_true] at h
    simp only [spr]
    split
    · rw [List.all_append, List.all_cons, List.all_append, hb, h.1, ih h.2]; rfl
    · rw [List.all_cons, h.1, ih h.2]; rfl
/-- With blanks round its marks a contract's text is read as that contract. -/
theorem rdT_spread (c : C) (hc : chkC c = 0) (hf : formC c = true) (hd : c.depth ≤ 12) (h32 : ∀ r ∈ rnC c, r ≠ 32) (g : Nat → Nat) (s : ByteArray) (hs : runesOf s = spr g 0 (rnC c)) (hz : s.size ≤ 1000) : rdT s = (c, 0, 0) := by
  have hall := rnC_all c hf
  have hb : Rn.badOf s = 0 := by unfold Rn.badOf; rw [hs]; exact bad_none _ (List.all_eq_true.1 (spr_ok g _ hall 0)) 0
  obtain ⟨l, hl⟩ : ∃ l, Rn.sgOf s = l := ⟨_, rfl⟩
  have htx : l.map (·.1) = tkC c := by
    rw [← hl]
    unfold Rn.sgOf
    rw [hs, spr_texts g (rnC c) (fun r hr => jm_of r (List.all_eq_true.1 hall r hr) (h32 r hr)) 0 [] [] [] 0 0 rfl, cutC_all c hf, sgC_tk]
  have hlp := ptk_of l (fun j => (l.getD j (⟨#[]⟩, 0)).2) 0 (fun j x hj => by
    show (l.getD (0 + j) (⟨#[]⟩, 0)).2 = x.2
    rw [Nat.zero_add, List.getD, hj]
    rfl)
  rw [htx] at hlp
  have ho : openR s = (⟨[], ((runesOf s).length : Int) + 1, 0, 0⟩ : RS).put (ptk (fun j => (l.getD j (⟨#[]⟩, 0)).2) 0 (tkC c) ++ []) := by
    unfold openR
    rw [if_neg (by omega), if_neg (by simpa using hb), hl, hlp, List.append_nil]
    rfl
  have ht := term_backP (fun j => (l.getD j (⟨#[]⟩, 0)).2) c hf 14 1 ⟨[], ((runesOf s).length : Int) + 1, 0, 0⟩ 0 [] rfl (by omega) rfl
  unfold rdT
  rw [ho, ht]
  simp only
  rw [end_none _ rfl]
  exact (if_pos rfl).trans (if_pos hc)

end Go.Proofs.YtfmjjfpajohihaaGreatDoor
namespace Go.Proofs.YtfmjjfpajohihaaGreatDoor
open Go.RowKit
set_option linter.unusedVariables false

theorem n32_join (r : Int) (h : Rn.joinB r = true) : (r != 32) = true := by
  rw [bne_iff_ne]
  intro e
  subst e
  exact absurd h (by decide)
theorem n32_app {a b : List Int} (ha : a.all (· != 32) = true) (hb : b.all (· != 32) = true) : (a ++ b).all (· != 32) = true := by rw [List.all_append, ha, hb]; rfl
theorem n32_cm {b : List Int} (hb : b.all (· != 32) = true) : (44 :: b).all (· != 32) = true := by rw [List.all_cons, hb]; decide
theorem n32_name (s : ByteArray) (h : nameGo 0 (runesOf s) = true) : (runesOf s).all (· != 32) = true := List.all_eq_true.2 fun r hr => n32_join r ((name_join s h).1 r hr)
theorem n32_num (n : Int) : (rnN n).all (· != 32) = true := List.all_eq_true.2 fun r hr => n32_join r ((itoa_join n).1 r hr)
theorem n32O (x : O) (hf : formB x = true) : (rnO x).all (· != 32) = true := by
  induction x with
  | odd v => cases hf
  | const n => exact n32_num n
  | fix s => exact n32_app (by decide) (n32_app (n32_name s hf) (by decide))
  | neg o ih => exact n32_app (by decide) (n32_app (ih hf) (by decide))
  | add a b iha ihb => simp only [formB, Bool.and_eq_true] at hf; exact n32_app (by decide) (n32_app (iha hf.1) (n32_cm (n32_app (ihb hf.2) (by decide))))
  | mul a b iha ihb => simp only [formB, Bool.and_eq_true] at hf; exact n32_app (by decide) (n32_app (iha hf.1) (n32_cm (n32_app (ihb hf.2) (by decide))))
  | max a b iha ihb => simp only [formB, Bool.and_eq_true] at hf; exact n32_app (by decide) (n32_app (iha hf.1) (n32_cm (n32_app (ihb hf.2) (by decide))))
theorem n32C (x : C) (hf : formC x = true) : (rnC x).all (· != 32) = true := by
  induction x with
  | odd v => cases hf
  | zero => decide
  | one s => exact n32_app (by decide) (n32_app (n32_name s hf) (by decide))
  | give c ih => exact n32_app (by decide) (n32_app (ih hf) (by decide))
  | and a b iha ihb => simp only [formC, Bool.and_eq_true] at hf; exact n32_app (by decide) (n32_app (iha hf.1) (n32_cm (n32_app (ihb hf.2) (by decide))))
  | or s a b iha ihb => simp only [formC, Bool.and_eq_true] at hf; exact n32_app (by decide) (n32_app (n32_name s hf.1.1) (n32_cm (n32_app (iha hf.1.2) (n32_cm (n32_app (ihb hf.2) (by decide))))))
  | scale o c ih => simp only [formC, Bool.and_eq_true] at hf; exact n32_app (by decide) (n32_app (n32O o hf.1) (n32_cm (n32_app (ih hf.2) (by decide))))
  | when n c ih => simp only [formC, Bool.and_eq_true] at hf; exact n32_app (by decide) (n32_app (n32_num n) (n32_cm (n32_app (ih hf.2) (by decide))))
  | iff o a b iha ihb => simp only [formC, Bool.and_eq_true] at hf; exact n32_app (by decide) (n32_app (n32O o hf.1.1) (n32_cm (n32_app (iha hf.1.2) (n32_cm (n32_app (ihb hf.2) (by decide))))))
theorem vblk (k : Nat) : (blk32 k).all (Utf8.valid ·) = true := by
  rw [List.all_eq_true]
  intro r hr
  have := List.eq_of_mem_replicate hr
  subst this
  decide
theorem vspr (g : Nat → Nat) (rs : List Int) (h : rs.all (Utf8.valid ·) = true) : ∀ n, (spr g n rs).all (Utf8.valid ·) = true := by
  induction rs with
  | nil => intro n; rfl
  | cons r rs ih =>
    intro n
    rw [List.all_cons, Bool.and_eq_true] at h
    simp only [spr]
    split
    · exact vapp (vblk _) (by rw [List.all_cons, h.1]; exact vapp (vblk _) (ih h.2 _))
    · rw [List.all_cons, h.1]; exact ih h.2 _
/-- A contract's text with blanks round its marks is read as that contract. -/
theorem read_gaps (c : C) (hc : chkC c = 0) (g : Nat → Nat) (x : ByteArray) (hx : x = runesBytes (spr g 0 (rnC c))) (hz : x.size ≤ 1000) : rdT x = (c, 0, 0) := by
  have h := chkC_zero hc
  exact rdT_spread c hc h.1 h.2.2.1 (fun r hr => bne_iff_ne.1 (List.all_eq_true.1 (n32C c h.1) r hr)) g x (runes_of _ _ (vspr g _ (vC c) 0) (by rw [hx])) hz
/-- The blanks as bytes. -/
theorem blk_bytes (k : Nat) : runesBytes (blk32 k) = ⟨(List.replicate k (32 : UInt8)).toArray⟩ := by
  induction k with
  | zero => exact ba_x (by simp [runesBytes, blk32])
  | succ k ih =>
    rw [show blk32 (k + 1) = 32 :: blk32 k from rfl, Rn.runesBytes_cons, ih]
    apply ba_x
    rw [show Utf8.encode 32 = ⟨#[32]⟩ by decide +kernel]
    simp [List.replicate_succ]
/-- A step of the loop at a mark, and at what is none. -/
theorem gap_mark (g : Nat → Nat) (n : Nat) (acc : List Int) (r : Int) (rs : List Int) (h : Rn.markB r = true) : acc ++ spr g n (r :: rs) = (acc ++ (blk32 (g n) ++ ([r] ++ blk32 (g n)))) ++ spr g (n + 1) rs := by
  simp only [spr, if_pos h, List.append_assoc, List.cons_append, List.nil_append]
theorem gap_else (g : Nat → Nat) (n : Nat) (acc : List Int) (r : Int) (rs : List Int) (h : Rn.markB r = false) : acc ++ spr g n (r :: rs) = (acc ++ [r]) ++ spr g n rs := by
  simp only [spr, h, List.append_assoc, List.cons_append, List.nil_append]
  rfl
theorem gap_bytes (acc : List Int) (k : Nat) (r : Int) : runesBytes (acc ++ (blk32 k ++ ([r] ++ blk32 k))) = runesBytes acc ++ ((runesBytes (blk32 k) ++ Utf8.encode r) ++ runesBytes (blk32 k)) := by
  rw [Rn.runesBytes_append, Rn.runesBytes_append, Rn.runesBytes_append, Rn.runesBytes_one, ByteArray.append_assoc]
theorem gap_size (acc : List Int) (k : Nat) (hk : k ≤ 2) (r : Int) : (runesBytes (acc ++ (blk32 k ++ ([r] ++ blk32 k)))).size ≤ (runesBytes acc).size + 8 := by
  rw [gap_bytes, blk_bytes]
  have := (Rn.encode_size r).2
  simp only [ByteArray.size_append, Rn.size_mk, List.length_replicate]
  omega

end Go.Proofs.YtfmjjfpajohihaaGreatDoor
namespace Go.Proofs.YtfmjjfpajohihaaGreatDoor
open Go.RowKit
set_option linter.unusedVariables false

theorem digN_dec (f : Nat) : ∀ n, n < 10 ^ (f + 1) → digN f n = Lib.decDigits n := by
  induction f with
  | zero =>
    intro n hn
    have h : n < 10 := by simpa using hn
    rw [Lib.decDigits, dif_pos h]
    simp only [digN]
    rw [Nat.mod_eq_of_lt h]
  | succ f ih =>
    intro n hn
    rw [Lib.decDigits]
    by_cases h : n < 10
    · rw [dif_pos h]; simp only [digN, h, if_true]
    · rw [dif_neg h]
      simp only [digN, h, if_false]
      rw [ih (n / 10) (by rw [Nat.pow_succ] at hn; omega)]
theorem dec_len (n : Nat) (h : n ≤ 9223372036854775808) : (Lib.decDigits n).length ≤ 20 := by
  rw [Lib.decDigits_length]; exact Lib.nDigits_le20 n (by omega)

set_option maxHeartbeats 2000000 in
set_option maxRecDepth 100000 in
theorem digitsNeg_any (f : Nat) : ∀ (m : Nat) (w : World), 1 ≤ m → m < 10 ^ (f + 1) → m ≤ 9223372036854775808 →
    Calls Tryz.prog 61 #[.int .i64 (-(m : Int))] w fun e w' => e = .returned (.string ⟨(45 :: Lib.decDigits m).toArray⟩) ∧ Below w.heap.size w w' := by
  induction f with
  | zero =>
    intro m w h1 hm hb
    have hm' : m < 10 := by simpa using hm
    have em : Int.tmod (-(m : Int)) 10 = -(m : Int) := by rw [Int.neg_tmod, Int.tmod_eq_emod_of_nonneg (by omega)]; omega
    have HD : Hid (Lib.decDigits m = [UInt8.ofNat (48 + m)]) := by show _ = _; rw [Lib.decDigits, dif_pos hm']
    have HC := hidIn (fun w => digits_small m w (by omega))
    have hneg : (-(m : Int)) < 0 := by omega
    have hgt : (-10 : Int) < -(m : Int) := by omega
    clear hm
    go_enter Tryz.func61, Tryz.ntmps61
    go_wp2_with fail
    refine (HC.out _).mono ?_
    rintro e w1 ⟨rfl, hb1⟩
    have hsz : (⟨#[UInt8.ofNat (48 + m)]⟩ : ByteArray).size = 1 := rfl
    generalize UInt8.ofNat (48 + m) = c at *
    go_wp2_with fail
    go_ret
    exact ⟨by rw [HD.out]; rfl, hb1⟩
  | succ f ih =>
    intro m w h1 hm hb
    by_cases h10 : m < 10
    · have hm' : m < 10 := h10
      have em : Int.tmod (-(m : Int)) 10 = -(m : Int) := by rw [Int.neg_tmod, Int.tmod_eq_emod_of_nonneg (by omega)]; omega
      have HD : Hid (Lib.decDigits m = [UInt8.ofNat (48 + m)]) := by show _ = _; rw [Lib.decDigits, dif_pos hm']
      have HC := hidIn (fun w => digits_small m w (by omega))
      have hneg : (-(m : Int)) < 0 := by omega
      have hgt : (-10 : Int) < -(m : Int) := by omega
      clear hm ih
      go_enter Tryz.func61, Tryz.ntmps61
      go_wp2_with fail
      refine (HC.out _).mono ?_
      rintro e w1 ⟨rfl, hb1⟩
      generalize UInt8.ofNat (48 + m) = c at *
      go_wp2_with fail
      go_ret
      exact ⟨by rw [HD.out]; rfl, hb1⟩
    · have em : Int.tmod (-(m : Int)) 10 = -((m % 10 : Nat) : Int) := by rw [Int.neg_tmod, Int.tmod_eq_emod_of_nonneg (by omega)]; omega
      have ed : Int.tdiv (-(m : Int)) 10 = -((m / 10 : Nat) : Int) := by rw [Int.neg_tdiv, Int.tdiv_eq_ediv_of_nonneg (by omega)]; omega
      have HD : Hid (Lib.decDigits m = Lib.decDigits (m / 10) ++ [UInt8.ofNat (48 + m % 10)]) := by show _ = _; rw [Lib.decDigits, dif_neg h10]
      have HC := hidIn (fun w => digits_small (m % 10) w (by omega))
      have HI := hidIn (fun w => ih (m / 10) w (by omega) (by rw [Nat.pow_succ] at hm; omega) (by omega))
      have hlen := dec_len (m / 10) (by omega)
      have hneg : (-(m : Int)) < 0 := by omega
      have hgt : ¬ (-10 : Int) < -(m : Int) := by omega
      have hq : m / 10 ≤ 922337203685477580 := by omega
      have hr : m % 10 < 10 := by omega
      generalize hqe : m / 10 = q at *
      generalize hre : m % 10 = r at *
      clear hm ih
      go_enter Tryz.func61, Tryz.ntmps61
      go_wp2_with fail
      refine (HC.out _).mono ?_
      rintro e w1 ⟨rfl, hb1⟩
      generalize UInt8.ofNat (48 + r) = c at *
      generalize Lib.decDigits q = D at *
      have hD : (⟨(45 :: D).toArray⟩ : ByteArray).size ≤ 21 := by show (45 :: D).toArray.size ≤ 21; simp; omega
      have HB1 := hidIn hb1
      clear hb1
      go_wp2_with fail
      refine (HI.out _).mono ?_
      rintro e w2 ⟨rfl, hb2⟩
      have HB2 := hidIn hb2
      clear hb2
      have hc1 : (⟨#[c]⟩ : ByteArray).size = 1 := rfl
      go_wp2_with fail
      go_ret
      exact ⟨by rw [HD.out, ← List.cons_append, ← ByteArray.mk_append_mk]; rfl, HB1.out.trans (HB2.out.mono HB1.out.size)⟩
theorem digAny (n : Int) (h0 : -9223372036854775808 ≤ n) (h1 : n ≤ 9223372036854775807) (w : World) :
    Calls Tryz.prog 61 #[.int .i64 n] w fun e w' => e = .returned (.string (numT n)) ∧ Below w.heap.size w w' := by
  by_cases h : n < 0
  · obtain ⟨m, hm⟩ : ∃ m : Nat, n = -(m : Int) := ⟨n.natAbs, by omega⟩
    subst hm
    have hp : (10 : Nat) ^ (20 + 1) = 1000000000000000000000 := by decide
    refine (digitsNeg_any 20 m w (by omega) (by omega) (by omega)).mono ?_
    rintro e w' ⟨rfl, hb⟩
    exact ⟨by unfold numT Lib.itoa; rw [if_pos h, Int.natAbs_neg, Int.natAbs_natCast], hb⟩
  · obtain ⟨m, hm⟩ : ∃ m : Nat, n = (m : Int) := ⟨n.toNat, by omega⟩
    subst hm
    have hp : (10 : Nat) ^ (20 + 1) = 1000000000000000000000 := by decide
    refine (digits_any 20 m w (by omega) (by omega) (by omega)).mono ?_
    rintro e w' ⟨rfl, hb⟩
    exact ⟨by unfold numT Lib.itoa; rw [if_neg h, Int.toNat_natCast, digN_dec 20 m (by omega)], hb⟩

end Go.Proofs.YtfmjjfpajohihaaGreatDoor
namespace Go.Proofs.YtfmjjfpajohihaaGreatDoor
open Go.RowKit Go.Maps
set_option linter.unusedVariables false

def namStep (st : List ByteArray) (c : C) : List ByteArray := addAll st (allL c.nums)
/-- The names of a contract's Fixes, in the order of a walk. -/
def C.all : C → List ByteArray
  | .give c => c.all
  | .and l r => l.all ++ r.all
  | .or _ l r => l.all ++ r.all
  | .scale o c => o.all ++ c.all
  | .when _ c => c.all
  | .iff o l r => o.all ++ (l.all ++ r.all)
  | _ => []
theorem names_fold (c : C) : ∀ st, c.pre.foldl namStep st = addAll st c.all := by
  induction c <;> intro st <;> simp_all [C.pre, namStep, C.nums, C.all, allL, addAll]
def C.names (c : C) : List ByteArray := addAll [] c.all
theorem addAll_id (acc : List ByteArray) : ∀ l : List ByteArray, (∀ s ∈ l, s ∈ acc) → addAll acc l = acc := by
  intro l
  induction l with
  | nil => intro _; rfl
  | cons s l ih =>
    intro h
    have h1 : addN acc s = acc := by unfold addN; rw [if_pos ((inN_iff acc s).2 (h s (by simp)))]
    show addAll (addN acc s) l = acc
    rw [h1]
    exact ih (fun t ht => h t (by simp [ht]))
theorem mem_addN (acc : List ByteArray) (s t : ByteArray) : t ∈ addN acc s ↔ t ∈ acc ∨ t = s := by
  unfold addN
  split
  · rename_i h
    have := (inN_iff acc s).1 h
    constructor
    · exact .inl
    · rintro (h | rfl); exact h; exact this
  · simp
theorem addN_twice (acc : List ByteArray) (s : ByteArray) (h : s ∈ acc) : addN acc s = acc := by unfold addN; rw [if_pos ((inN_iff acc s).2 h)]
theorem mem_addAll : ∀ (l acc : List ByteArray) (t : ByteArray), t ∈ addAll acc l ↔ t ∈ acc ∨ t ∈ l := by
  intro l
  induction l with
  | nil => intro acc t; simp [addAll]
  | cons s l ih =>
    intro acc t
    show t ∈ addAll (addN acc s) l ↔ _
    rw [ih, mem_addN]
    simp only [List.mem_cons]
    constructor
    · rintro ((h | h) | h); exact .inl h; exact .inr (.inl h); exact .inr (.inr h)
    · rintro (h | h | h); exact .inl (.inl h); exact .inl (.inr h); exact .inr h
/-- Adding what is each once is adding all. -/
theorem addAll_once : ∀ (l acc pre : List ByteArray), (∀ s ∈ pre, s ∈ acc) → addAll acc (addAll pre l) = addAll acc l := by
  intro l
  induction l with
  | nil => intro acc pre h; exact addAll_id acc pre h
  | cons s l ih =>
    intro acc pre h
    show addAll acc (addAll (addN pre s) l) = addAll (addN acc s) l
    by_cases hs : s ∈ pre
    · rw [addN_twice pre s hs, ih acc pre h, addN_twice acc s (h s hs)]
    · have e : addN pre s = pre ++ [s] := by
        unfold addN
        rw [if_neg (fun e => hs ((inN_iff pre s).1 e))]
      have hc : ∀ (l pre : List ByteArray), ∃ m, addAll pre l = pre ++ m := by
        intro l
        induction l with
        | nil => intro pre; exact ⟨[], by simp [addAll]⟩
        | cons x l ihl =>
          intro pre
          obtain ⟨m, hm⟩ := ihl (addN pre x)
          show ∃ m, addAll (addN pre x) l = pre ++ m
          rw [hm]
          unfold addN
          split
          · exact ⟨m, rfl⟩
          · exact ⟨[x] ++ m, by simp⟩
      obtain ⟨m, hm⟩ := hc l (addN pre s)
      rw [hm, e, addAll_append, addAll_append, addAll_id acc pre h]
      have h2 : addAll acc [s] = addN acc s := rfl
      rw [h2]
      have h3 := ih (addN acc s) (addN pre s) (fun t ht => by
        rw [mem_addN] at ht ⊢
        rcases ht with ht | ht
        · exact .inl (h t ht)
        · exact .inr ht)
      rw [hm, e, addAll_append, addAll_append] at h3
      rw [addAll_id (addN acc s) pre (fun t ht => (mem_addN acc s t).2 (.inl (h t ht)))] at h3
      have h4 : addAll (addN acc s) [s] = addN acc s := addN_twice _ _ ((mem_addN acc s s).2 (.inr rfl))
      rw [h4] at h3
      exact h3

/-- What is kept while names are gathered. -/
def NamInv (V : Nat) (own : Nat → Prop) (st : List ByteArray) (w : World) : Prop :=
  ∃ v, own = (fun k => k = V ∨ k = V + 1 ∨ v.ownBlock = some k) ∧ w.heap[V]? = some (.cells #[v] 23 (0, 0)) ∧ w.heap[V + 2]? = some (.cells #[.map (some (V + 1))] 156 (0, 0)) ∧ NIn w (V + 1) v st ∧ v.ownBlock ≠ some (V + 2)

theorem names_ok (o : O) (h : o.Ok) : ∀ s ∈ o.all, s.size ≤ 2147483648 := by
  induction o with
  | fix s => intro t ht; simp [O.all] at ht; subst ht; exact h
  | neg o ih => exact ih h
  | add l r h1 h2 => intro s hs; simp only [O.all, List.mem_append] at hs; rcases hs with hs | hs; exact h1 h.1 s hs; exact h2 h.2 s hs
  | mul l r h1 h2 => intro s hs; simp only [O.all, List.mem_append] at hs; rcases hs with hs | hs; exact h1 h.1 s hs; exact h2 h.2 s hs
  | max l r h1 h2 => intro s hs; simp only [O.all, List.mem_append] at hs; rcases hs with hs | hs; exact h1 h.1 s hs; exact h2 h.2 s hs
  | _ => intro s hs; simp [O.all] at hs
theorem onames_ok (o : O) (h : o.Ok) : ∀ s ∈ o.names, s.size ≤ 2147483648 := by
  intro s hs
  unfold O.names at hs
  rw [mem_addAll] at hs
  rcases hs with hs | hs
  · simp at hs
  · exact names_ok o h s hs

theorem nam_fin {V : Nat} {v v2 : Value} {acc : List ByteArray} {w W wA wB : World} (hBW : Below w.heap.size w W) (hXA : Below W.heap.size W wA) (hG : Grew (V + 1) v.ownBlock wA wB) (hin : NIn wB (V + 1) v2 acc) (hloc : v2.ownBlock = v.ownBlock ∨ ∀ k, v2.ownBlock = some k → wA.heap.size ≤ k) (hVB : wB.heap[V]? = some (.cells #[v] 23 (0, 0))) (h3 : w.heap[V + 2]? = some (.cells #[.map (some (V + 1))] 156 (0, 0))) (h5 : v.ownBlock ≠ some (V + 2)) :
    ∃ own', NamInv V own' acc (wB.setCell ⟨V, 0, none⟩ v2) ∧ Dyn (fun k => k = V ∨ k = V + 1 ∨ v.ownBlock = some k) w own' (wB.setCell ⟨V, 0, none⟩ v2) := by
  have hlt := (Array.getElem?_eq_some_iff.1 h3).1
  have s1 := hBW.size
  have s2 := hXA.size
  have s3 := hG.size
  refine ⟨fun k => k = V ∨ k = V + 1 ∨ v2.ownBlock = some k, ⟨v2, rfl, heap_setCell_same wB V 0 _ _ _ hVB, ?_, ⟨ownsRow_setCell_below hin.1 (a := ⟨V, 0, none⟩) (by show V < V + 1 + 1; omega) v2, hin.2.1.setCell (by show V + 1 ≠ V; omega) _, by rw [World.size_setCell]; exact hin.2.2⟩, ?_⟩, hG.os.trans (hXA.os.trans hBW.os), hG.tape.trans (hXA.tape.trans hBW.tape), hG.output.trans (hXA.output.trans hBW.output), by rw [World.size_setCell]; omega, fun k hk hno => ?_, fun k hk => ?_⟩
  · rw [heap_setCell_other wB ⟨V, 0, none⟩ (V + 2) _ (by show V + 2 ≠ V; omega)]
    exact (hG.block (V + 2) (by omega) (by omega) h5).trans ((hXA.block (V + 2) (by omega)).trans ((hBW.block (V + 2) hlt).trans h3))
  · rcases hloc with h | h
    · rw [h]; exact h5
    · intro e; have := h _ e; omega
  · have k1 : k ≠ V := fun e => hno (.inl e)
    have k2 : k ≠ V + 1 := fun e => hno (.inr (.inl e))
    have k3 : v.ownBlock ≠ some k := fun e => hno (.inr (.inr e))
    rw [heap_setCell_other wB ⟨V, 0, none⟩ k _ k1]
    exact (hG.block k (by omega) k2 k3).trans ((hXA.block k (by omega)).trans (hBW.block k hk))
  · rcases hk with hk | hk | hk
    · exact .inl (.inl hk)
    · exact .inl (.inr (.inl hk))
    · rcases hloc with h | h
      · rw [h] at hk; exact .inl (.inr (.inr hk))
      · have := h k hk; exact .inr (by omega)

end Go.Proofs.YtfmjjfpajohihaaGreatDoor
namespace Go.Proofs.YtfmjjfpajohihaaGreatDoor
open Go.RowKit
set_option linter.unusedVariables false

theorem ownsRow_below {w w' : World} {B e size n : Nat} {v : Value} {xs : List Value} (h : w.ownsRow B e size v n xs) (hb : Below w.heap.size w w') : w'.ownsRow B e size v n xs :=
  h.kept (grown_of_below hb none) (by cases hv : v.ownBlock <;> simp)
theorem grownBy_refl (w : World) (r : Option Nat) : w.grownBy w r := grown_of_below (Below.refl _ _) r
theorem wpList_append_rows {ops : Array Oper} {rest : List Oper} {o : Oper} {a : Act} {Q : Exit → Act → World → Prop} (w : World) (hgd : o.guard = none) (s x : Operand)
    (ho : o.op = .call { callee := .builtin .append, args := #[s, x], argTypes := #[23, 23] })
    (base : Nat) (v : Value) (l : List ByteArray) (hs : a.eval s = v) (hown : w.ownsRow base 9 1 v l.length (strCells l))
    (B : Nat) (xv : Value) (m : List ByteArray) (hx : a.eval x = xv) (hox : w.ownsRow B 9 1 xv m.length (strCells m)) (hlen : l.length + m.length ≤ 1000000) (hbase : base ≤ w.heap.size)
    (h : ∀ v' w', w'.ownsRow base 9 1 v' (l ++ m).length (strCells (l ++ m)) → w.grownBy w' v.ownBlock → (v'.ownBlock = v.ownBlock ∨ v'.ownBlock = some w.heap.size) → wpList Tryz.prog ops Q rest (a.put o.dst v') w') : wpList Tryz.prog ops Q (o :: rest) a w := by
  obtain ⟨i0, gi, gz0, gz1, gz2⟩ := info_parts infoStr
  have hox2 := hox
  rcases hox2.2 with ⟨rfl, h0⟩ | ⟨g, cap, cur, rfl, hb, hg, hnc, hcm, _⟩
  · have hm : m = [] := List.length_eq_zero_iff.1 h0
    subst hm
    refine wpList_append_own_none hgd s x 23 ho base 9 i0 1 Tryz.underlying23 gi v l.length (strCells l) hs hown hx ?_
    exact h v w (by simpa using hown) (grownBy_refl w _) (.inl rfl)
  · refine wpList_append_own_at w hgd s x 23 ho base 9 i0 (.string ByteArray.empty) 1 16 Tryz.underlying23 gi gz0 gz1 gz2 rfl (by decide) v l.length (strCells l) hs hown ⟨g, 0, none⟩ m.length cap (strCells m) hx (by simp [strCells]) ?_ ?_ (by unfold maxLen; omega) (by omega) hbase ?_
    · intro j u hj
      rw [Addr.add_lit, Nat.zero_add]
      have hjl : j < m.length := by
        have := (List.getElem?_eq_some_iff.1 hj).1
        simpa [strCells] using this
      rw [hox.cellAt j (by omega)]
      exact hj
    · intro u hu
      obtain ⟨t, _, rfl⟩ := List.mem_map.1 hu
      rfl
    · intro v' w' h1 h2 _ h3
      refine h v' w' ?_ h2 h3
      simpa [strCells] using h1
/-- The labels of contracts, one behind the other. -/
def labL : List C → List ByteArray
  | [] => []
  | k :: l => k.labels ++ labL l
theorem labL_snoc (l : List C) (k : C) : labL (l ++ [k]) = labL l ++ k.labels := by
  induction l with
  | nil => simp [labL]
  | cons a l ih => simp [labL, ih]
theorem labels_kids (c : C) : c.labels = (if c.kind = 5 then [c.text] else []) ++ labL c.kids := by
  cases c <;> simp [C.labels, C.kind, C.text, C.kids, labL]
theorem labL_weight (l : List C) : (labL l).length ≤ weightL l := by
  induction l with
  | nil => simp [labL]
  | cons a l ih => have := labels_weight a; simp [labL, weightL]; omega
/-- What an assertion to one of api's types with two or three fields tells of a contract. -/
theorem or_part (c : C) (h : c.Ok) : ∃ (s : ByteArray) (l r : Value) (b : Bool), (∀ xT w, (Instr.typeAssert c.val xT 83 true).run Tryz.prog w = .ok (.tuple #[.agg #[.string s, l, r], .bool b]) w) ∧ One' l ∧ One' r ∧ ((b = true ∧ c.kind = 5 ∧ s = c.text) ∨ (b = false ∧ c.kind ≠ 5)) := by
  have hn : One' Value.nilIface := ⟨rfl, rfl⟩
  cases c with
  | or s l r => exact ⟨s, l.val, r.val, true, fun xT w => isOr _ xT w, l.one' h.2.1, r.one' h.2.2, .inl ⟨rfl, rfl, rfl⟩⟩
  | odd v =>
    rcases h with rfl | ⟨t, x, rfl, _, _, _, _, h5, _⟩
    · exact ⟨_, _, _, false, fun xT w => nilOr xT w, hn, hn, .inr ⟨rfl, by simp [C.kind]⟩⟩
    · exact ⟨_, _, _, false, fun xT w => notOr t x xT w h5, hn, hn, .inr ⟨rfl, by simp [C.kind]⟩⟩
  | _ => exact ⟨_, _, _, false, fun xT w => notOr _ _ xT w (by decide), hn, hn, .inr ⟨rfl, by simp [C.kind]⟩⟩
theorem scale_part (c : C) (h : c.Ok) : ∃ (l r : Value) (b : Bool), (∀ xT w, (Instr.typeAssert c.val xT 85 true).run Tryz.prog w = .ok (.tuple #[.agg #[l, r], .bool b]) w) ∧ One' l ∧ One' r ∧ ((b = true ∧ c.kind = 6) ∨ (b = false ∧ c.kind ≠ 6)) := by
  have hn : One' Value.nilIface := ⟨rfl, rfl⟩
  cases c with
  | scale o c => exact ⟨o.val, c.val, true, fun xT w => isScale _ xT w, o.one' h.1, c.one' h.2, .inl ⟨rfl, rfl⟩⟩
  | odd v =>
    rcases h with rfl | ⟨t, x, rfl, _, _, _, _, _, h6, _⟩
    · exact ⟨_, _, false, fun xT w => nilScale xT w, hn, hn, .inr ⟨rfl, by simp [C.kind]⟩⟩
    · exact ⟨_, _, false, fun xT w => notScale t x xT w h6, hn, hn, .inr ⟨rfl, by simp [C.kind]⟩⟩
  | _ => exact ⟨_, _, false, fun xT w => notScale _ _ xT w (by decide), hn, hn, .inr ⟨rfl, by simp [C.kind]⟩⟩
theorem if_part (c : C) (h : c.Ok) : ∃ (o l r : Value) (b : Bool), (∀ xT w, (Instr.typeAssert c.val xT 89 true).run Tryz.prog w = .ok (.tuple #[.agg #[o, l, r], .bool b]) w) ∧ One' o ∧ One' l ∧ One' r ∧ ((b = true ∧ c.kind = 8) ∨ (b = false ∧ c.kind ≠ 8)) := by
  have hn : One' Value.nilIface := ⟨rfl, rfl⟩
  cases c with
  | iff o l r => exact ⟨o.val, l.val, r.val, true, fun xT w => isIf _ xT w, o.one' h.1, l.one' h.2.1, r.one' h.2.2, .inl ⟨rfl, rfl⟩⟩
  | odd v =>
    rcases h with rfl | ⟨t, x, rfl, _, _, _, _, _, _, _, h8⟩
    · exact ⟨_, _, _, false, fun xT w => nilIf xT w, hn, hn, hn, .inr ⟨rfl, by simp [C.kind]⟩⟩
    · exact ⟨_, _, _, false, fun xT w => notIf t x xT w h8, hn, hn, hn, .inr ⟨rfl, by simp [C.kind]⟩⟩
  | _ => exact ⟨_, _, _, false, fun xT w => notIf _ _ xT w (by decide), hn, hn, hn, .inr ⟨rfl, by simp [C.kind]⟩⟩
theorem plain_parts (c : C) (h6 : c.kind ≠ 6) (h8 : c.kind ≠ 8) : c.nums = [] := by
  cases c <;> simp [C.nums, C.kind] at h6 h8 ⊢

end Go.Proofs.YtfmjjfpajohihaaGreatDoor
namespace Go.Proofs.YtfmjjfpajohihaaGreatDoor
open Go.RowKit
set_option linter.unusedVariables false

mutual
/-- The labels of a tree's Ors, in order. -/
def T.labs : T → List ByteArray
  | .mk kind s _ k => (if kind = 5 then [s] else []) ++ labsL k
def labsL : List T → List ByteArray
  | [] => []
  | t :: l => t.labs ++ labsL l
end
mutual
/-- How many trees there are in a tree. -/
def T.cnt : T → Nat
  | .mk _ _ _ k => cntL k + 1
def cntL : List T → Nat
  | [] => 0
  | t :: l => t.cnt + cntL l
end
theorem labsL_snoc (l : List T) (k : T) : labsL (l ++ [k]) = labsL l ++ k.labs := by
  induction l with
  | nil => simp [labsL]
  | cons a l ih => simp [labsL, ih]
theorem cntL_snoc (l : List T) (k : T) : cntL (l ++ [k]) = cntL l + k.cnt := by
  induction l with
  | nil => simp [cntL]
  | cons a l ih => simp [cntL, ih]; omega
theorem cntL_take (l : List T) (i : Nat) : cntL (l.take i) ≤ cntL l := by
  induction l generalizing i with
  | nil => simp [cntL]
  | cons a l ih => cases i with
    | zero => simp [cntL]
    | succ i => simp [cntL]; exact ih i
theorem cntL_mem (l : List T) (t : T) (h : t ∈ l) : t.cnt ≤ cntL l := by
  induction l with
  | nil => simp at h
  | cons a l ih =>
    simp only [List.mem_cons] at h
    simp only [cntL]
    rcases h with rfl | h
    · omega
    · have := ih h; omega
theorem labs_cnt : ∀ t : T, t.labs.length ≤ t.cnt := by
  intro t
  induction t using T.ind with
  | _ kind s n k ih =>
    have h : (labsL k).length ≤ cntL k := by
      induction k with
      | nil => simp [labsL]
      | cons a l ihl =>
        have h1 := ih a (by simp)
        have h2 := ihl (fun t ht => ih t (by simp [ht]))
        simp only [labsL, cntL, List.length_append]
        omega
    unfold T.labs T.cnt
    rw [List.length_append]
    split <;> simp <;> omega
theorem labsL_cnt (l : List T) : (labsL l).length ≤ cntL l := by
  induction l with
  | nil => simp [labsL]
  | cons a l ih => have := labs_cnt a; simp only [labsL, cntL, List.length_append]; omega

set_option maxHeartbeats 4000000 in
set_option maxRecDepth 100000 in
theorem refLabels_any (t : T) : t.cnt ≤ 999990 → ∀ (w : World) (v : Value), TIn w 0 t v → Calls Tryz.prog 58 #[v] w fun e w' => ∃ v', e = .returned v' ∧ w'.ownsRow w.heap.size 9 1 v' t.labs.length (strCells t.labs) ∧ Below w.heap.size w w' := by
  induction t using T.ind with
  | _ kind s n k ih =>
  intro hcnt w v hv
  have hkl := len_cap hv
  obtain ⟨a, cap, rfl, hc1, hc2, hK⟩ := hv
  simp only [T.kind, T.s, T.n, T.k] at hc1 hK hkl ⊢
  obtain ⟨i0, gi, gz0, gz1, gz2⟩ := info_parts infoStr
  have hct : (T.mk kind s n k).cnt = cntL k + 1 := by rw [T.cnt]
  rw [hct] at hcnt
  have HIH : Hid (∀ t ∈ k, ∀ (w : World) (v : Value), TIn w 0 t v → Calls Tryz.prog 58 #[v] w fun e w' => ∃ v', e = .returned v' ∧ w'.ownsRow w.heap.size 9 1 v' t.labs.length (strCells t.labs) ∧ Below w.heap.size w w') := fun t ht => ih t ht (by have := cntL_mem k t ht; omega)
  have HLT0 : Hid ((T.mk kind s n k).labs = (if kind = 5 then [s] else []) ++ labsL k) := by unfold Hid; rw [T.labs]
  have HK := hidIn hK
  have HCN := hidIn hcnt
  clear ih hK hct
  go_enter Tryz.func58, Tryz.ntmps58
  go_upto_if 7 with fail
  obtain ⟨W, hW⟩ : ∃ W, W = w.alloc (.cells #[.int .i64 kind, .string s, .int .i64 n, .slice a k.length cap] 44) := ⟨_, rfl⟩
  have HB : Hid (Below w.heap.size w W) := by rw [hW]; exact below_alloc (Below.refl _ _) _
  have HBK : Hid (W.heap[w.heap.size]? = some (.cells #[.int .i64 kind, .string s, .int .i64 n, .slice a k.length cap] 44 (0, 0))) := by rw [hW]; exact heap_alloc_new _ _
  rw [← hW]
  clear hW
  go_cut [3] (fun s3 wx => wx.ownsRow W.heap.size 9 1 s3 (if kind = 5 then [s] else []).length (strCells (if kind = 5 then [s] else [])) ∧ Below W.heap.size W wx)
  case first =>
    by_cases h5 : kind = 5
    · have h5' : (kind == 5) = true := by simp [h5]
      have hcl := (cell_of_row _ _ 1 _ _ _ HBK.out)
      rw [show (#[.int .i64 kind, .string s, .int .i64 n, .slice a k.length cap] : Array Value)[1]? = some (.string s) from rfl] at hcl
      have HIF : Hid ((if kind = 5 then [s] else []) = [s]) := by unfold Hid; rw [if_pos h5]
      clear h5
      go_wp2_with (first
        | (at_builtin; refine wpList_append_own _ rfl _ _ 23 rfl W.heap.size 9 i0 (.string ByteArray.empty) 1 16 Tryz.underlying23 gi gz0 gz1 gz2 rfl (by decide) _ _ _ rfl (World.ownsRow_nil _ _ _ _) ⟨W.heap.size, 0, none⟩ 1 1 [.string s] rfl rfl (cell_one_in rfl _ _) (by intro u hu; simp at hu; subst hu; rfl) (by unfold maxLen; omega) (by omega) (by simp) ?_; intro v2 w2 hown2 hgrow2 _)
        | go_in)
      go_meet
      case rel =>
        have h1 : Below W.heap.size W (W.alloc (.cells #[.string s] 9)) := below_alloc (Below.refl _ _) _
        exact ⟨by rw [HIF.out]; simpa [strCells] using hown2, h1.grown hgrow2 (by simp) (fun j hj => by cases hj)⟩
    · have h5' : (kind == 5) = false := by simp [h5]
      have HIF : Hid ((if kind = 5 then [s] else []) = ([] : List ByteArray)) := by unfold Hid; rw [if_neg h5]
      clear h5
      go_wp2_with fail
      go_meet
      case rel => exact ⟨by rw [HIF.out]; exact World.ownsRow_nil _ _ _ _, Below.refl _ _⟩
  case rest =>
    obtain ⟨hrow, hbx⟩ := hcut
    generalize hl0 : (if kind = 5 then [s] else []) = l0 at *
    have hl1 : l0.length ≤ 1 := by rw [← hl0]; split <;> simp
    clear hl0
    have HROW0 := hidIn hrow
    have HBX := hidIn hbx
    have HG : Hid (∀ X, Below W.heap.size W X → X.cell? ⟨w.heap.size, 3, none⟩ = some (.slice a k.length cap)) := fun X hX => (cell_of_row _ _ _ _ _ _ ((hX.block _ (Array.getElem?_eq_some_iff.1 HBK.out).1).trans HBK.out)).trans rfl
    have HKW : Hid (KAt W 0 k a 0) := HK.out.below HB.out
    have g3 := HG.out wc hbx
    clear hrow hbx HBK HK
    go_wp2_with fail
    clear g3
    go_loopw [16, 3] (fun s16 s3 wr => ∃ i : Nat, i ≤ k.length ∧ s16 = .int .i64 i ∧ wr.ownsRow W.heap.size 9 1 s3 (l0 ++ labsL (k.take i)).length (strCells (l0 ++ labsL (k.take i))) ∧ Below W.heap.size W wr) (fun s16 _ _ => k.length - (intOf s16).toNat)
    case atStart => exact ⟨0, by omega, rfl, by simpa [labsL] using HROW0.out, HBX.out⟩
    case round =>
      clear HROW0 HBX
      obtain ⟨i, hi, rfl, hrow, hbr⟩ := hrel
      have HROW := hidIn hrow
      have HBR := hidIn hbr
      by_cases hlt : i < k.length
      · have hlt' : (i : Int) < (k.length : Int) := by omega
        obtain ⟨t, hti⟩ : ∃ t, k[i]? = some t := ⟨_, List.getElem?_eq_getElem hlt⟩
        obtain ⟨b, o, ka, ca, rfl, c0, c1, c2, c3, ht⟩ := (HKW.out.below hbr).cells hti
        have g3 := HG.out wr hbr
        have HM : Hid (t ∈ k) := List.mem_of_getElem? hti
        have HTI := hidIn ht
        have htk := take_more _ _ _ hti
        have HT3 : Hid (l0 ++ labsL (k.take (i + 1)) = (l0 ++ labsL (k.take i)) ++ t.labs) := by unfold Hid; rw [htk, labsL_snoc, List.append_assoc]
        have HLEN : Hid ((l0 ++ labsL (k.take i)).length + t.labs.length ≤ 1000000) := by
          have h1 := labs_cnt t
          have h2 := labsL_cnt (k.take i)
          have h3 := cntL_take k (i + 1)
          rw [htk, cntL_snoc] at h3
          have := HCN.out
          rw [List.length_append]
          show _ ≤ _
          omega
        clear hti htk ht hrow hbr
        generalize l0 ++ labsL (k.take i) = L at *
        go_wp2_with fail
        refine (HIH.out t HM.out wr _ HTI.out).mono ?_
        rintro e w4 ⟨v4, rfl, hrow4, hb4⟩
        have HB4 := hidIn (HBR.out.trans (hb4.mono HBR.out.size))
        have HROW4 := hidIn (ownsRow_below HROW.out hb4)
        have HNEW := hidIn hrow4
        clear hb4 hrow4 c0 c1 c2 c3 g3 HTI
        go_wp2_with (first
          | (at_builtin; refine wpList_append_rows _ rfl _ _ rfl W.heap.size _ L rfl HROW4.out wr.heap.size _ t.labs rfl HNEW.out HLEN.out HB4.out.size ?_; intro v5 w5 hown5 hgrow5 hloc5)
          | go_in)
        have HB5 : Hid (Below W.heap.size W w5) := HB4.out.grown hgrow5 HB4.out.size (fun j hj => (HROW4.out.lt j hj).1)
        have HOWN5 := hidIn hown5
        clear hown5 hgrow5 hloc5
        go_wp2_with fail
        go_roundw
        case rel => exact ⟨i + 1, by omega, by go_num, by rw [HT3.out]; exact HOWN5.out, HB5.out⟩
        case measure => simp [intOf]; omega
      · have hle : i = k.length := by omega
        subst hle
        have HE : Hid (wr.ownsRow W.heap.size 9 1 u3 (l0 ++ labsL k).length (strCells (l0 ++ labsL k))) := by have h := HROW.out; rw [List.take_length] at h; exact h
        clear hrow HROW hbr
        go_wp2_with fail
        go_ret
        refine ⟨_, rfl, ?_, HB.out.trans (HBR.out.mono HB.out.size)⟩
        rw [HLT0.out]
        exact ownsRow_base HE.out HB.out.size

end Go.Proofs.YtfmjjfpajohihaaGreatDoor
namespace Go.Proofs.YtfmjjfpajohihaaGreatDoor
open Go.RowKit
set_option linter.unusedVariables false

theorem addAll_len : ∀ (l acc : List ByteArray), (addAll acc l).length < acc.length + l.length ↔ ¬ (l.Nodup ∧ ∀ s ∈ l, s ∉ acc) := by
  intro l
  induction l with
  | nil => intro acc; simp [addAll]
  | cons s l ih =>
    intro acc
    show (addAll (addN acc s) l).length < _ ↔ _
    by_cases hs : s ∈ acc
    · rw [addN_twice acc s hs]
      have h := addAll_length l acc
      constructor
      · intro _ hn
        exact hn.2 s (by simp) hs
      · intro _
        simp only [List.length_cons]
        omega
    · have e : addN acc s = acc ++ [s] := by
        unfold addN
        rw [if_neg (fun e => hs ((inN_iff acc s).1 e))]
      have h := ih (acc ++ [s])
      rw [e]
      have hl : (acc ++ [s]).length + l.length = acc.length + (s :: l).length := by simp; omega
      rw [hl] at h
      rw [h]
      constructor
      · intro hn hc
        apply hn
        refine ⟨(List.nodup_cons.1 hc.1).2, fun x hx => ?_⟩
        simp only [List.mem_append, List.mem_singleton, not_or]
        exact ⟨hc.2 x (by simp [hx]), fun ex => (List.nodup_cons.1 hc.1).1 (ex ▸ hx)⟩
      · intro hn hc
        apply hn
        refine ⟨List.nodup_cons.2 ⟨fun hx => ?_, hc.1⟩, fun x hx => ?_⟩
        · have := hc.2 s hx
          simp at this
        · simp only [List.mem_cons] at hx
          rcases hx with rfl | hx
          · exact hs
          · have := hc.2 x hx
            simp only [List.mem_append, List.mem_singleton, not_or] at this
            exact this.1
theorem twice_iff (l : List ByteArray) : twice l = true ↔ ¬ l.Nodup := by
  have h := addAll_len l []
  simp only [List.length_nil, Nat.zero_add, List.not_mem_nil, not_false_eq_true, implies_true, and_true] at h
  unfold twice
  rw [decide_eq_true_iff]
  exact h
/-- What the document's Check answers. -/
def chkT (t : T) (nb : Bool) : Int := if formT t nb = true then (if 60 < t.nodes ∨ 12 < t.depth then 5 else if twice t.labs = true then 4 else 0) else 2
theorem nodup_take {l : List ByteArray} {i : Nat} {s : ByteArray} (h : (l.take i).Nodup) (hs : l[i]? = some s) (hn : ∀ b, b < i → l[b]? ≠ some s) : (l.take (i + 1)).Nodup := by
  rw [take_more _ _ _ hs, List.nodup_append]
  refine ⟨h, by simp, fun x hx y hy => ?_⟩
  simp at hy
  subst hy
  intro e
  subst e
  obtain ⟨b, hb, he⟩ := List.mem_iff_getElem.1 hx
  rw [List.length_take] at hb
  refine hn b (by omega) ?_
  rw [← he, List.getElem_take]
  exact List.getElem?_eq_getElem (by omega)
theorem nodup_get {l : List ByteArray} (h : l.Nodup) {i j : Nat} {s : ByteArray} (hi : l[i]? = some s) (hj : l[j]? = some s) : i = j := by
  obtain ⟨h1, e1⟩ := List.getElem?_eq_some_iff.1 hi
  obtain ⟨h2, e2⟩ := List.getElem?_eq_some_iff.1 hj
  exact (List.getElem_inj h).1 (e1.trans e2.symm)

set_option maxHeartbeats 4000000 in
set_option maxRecDepth 100000 in
theorem refCheck_any (t : T) (hsz : t.Sized) (hcnt : t.cnt ≤ 999990) (hnd : t.nodes ≤ 1000000) (nb : Bool) (w : World) (v : Value) (hv : TIn w 0 t v) : Calls Tryz.prog 32 #[v, .bool nb] w fun e w' => e = .returned (.int .i64 (chkT t nb)) ∧ Below w.heap.size w w' := by
  have HV := hidIn hv
  have hdn := T_depth_nodes t
  obtain ⟨a, cap, rfl, hc1, hc2, hK⟩ := hv
  have HSZ := hidIn hsz
  have HLN := hidIn (labs_cnt t)
  have HCN := hidIn hcnt
  obtain ⟨W, hW⟩ : ∃ W, W = w.alloc (.cells #[.int .i64 t.kind, .string t.s, .int .i64 t.n, .slice a t.k.length cap] 44) := ⟨_, rfl⟩
  have HB : Hid (Below w.heap.size w W) := by rw [hW]; exact below_alloc (Below.refl _ _) _
  have HBK : Hid (W.heap[w.heap.size]? = some (.cells #[.int .i64 t.kind, .string t.s, .int .i64 t.n, .slice a t.k.length cap] 44 (0, 0))) := by rw [hW]; exact heap_alloc_new _ _
  have HF : Hid (∀ X, Below W.heap.size W X → (X.cell? ⟨w.heap.size, 0, none⟩ = some (.int .i64 t.kind) ∧ X.cell? ⟨w.heap.size, 1, none⟩ = some (.string t.s) ∧ X.cell? ⟨w.heap.size, 2, none⟩ = some (.int .i64 t.n) ∧ X.cell? ⟨w.heap.size, 3, none⟩ = some (.slice a t.k.length cap)) ∧ TIn X 0 t (.agg #[.int .i64 t.kind, .string t.s, .int .i64 t.n, .slice a t.k.length cap])) := fun X hX => by
    have h := (hX.block _ (Array.getElem?_eq_some_iff.1 HBK.out).1).trans HBK.out
    exact ⟨⟨(cell_of_row _ _ _ _ _ _ h).trans rfl, (cell_of_row _ _ _ _ _ _ h).trans rfl, (cell_of_row _ _ _ _ _ _ h).trans rfl, (cell_of_row _ _ _ _ _ _ h).trans rfl⟩, (HV.out.below HB.out).below hX⟩
  clear hK hsz hcnt
  go_enter Tryz.func32, Tryz.ntmps32
  go_wp2_with fail
  rw [← hW]
  clear hW HBK HV
  refine (form_any t HSZ.out nb W _ (HF.out W (Below.refl _ _)).2).mono ?_
  rintro e w1 ⟨rfl, hb1⟩
  obtain ⟨⟨c0, c1, c2, c3⟩, t1⟩ := HF.out w1 hb1
  have HT1 := hidIn t1
  have HB1 := hidIn hb1
  clear t1 hb1
  cases hf : formT t nb
  · go_wp2_with fail
    go_ret
    exact ⟨by unfold chkT; rw [if_neg (by rw [hf]; simp)]; rfl, HB.out.trans (HB1.out.mono HB.out.size)⟩
  · have HC : Hid (chkT t nb = if 60 < t.nodes ∨ 12 < t.depth then 5 else if twice t.labs = true then 4 else 0) := by unfold Hid chkT; rw [if_pos hf]
    go_wp2_with fail
    refine (refSize_any t w1 _ HT1.out hnd).mono ?_
    rintro e w2 ⟨rfl, hb2⟩
    have hx2 := HB1.out.trans (hb2.mono HB1.out.size)
    have HX2 := hidIn hx2
    obtain ⟨⟨d0, d1, d2, d3⟩, t2⟩ := HF.out w2 hx2
    have HT2 := hidIn t2
    have HB2 := hidIn (HB.out.trans (hx2.mono HB.out.size))
    clear t2 hb2 hx2 c0 c1 c2 c3
    by_cases h1 : 60 < t.nodes
    · have h1' : (60 : Int) < (t.nodes : Int) := by omega
      go_wp2_with fail
      go_ret
      exact ⟨by rw [HC.out, if_pos (.inl h1)]; rfl, HB2.out⟩
    · have h1' : ¬ (60 : Int) < (t.nodes : Int) := by omega
      have h1d : decide ((60 : Int) < (t.nodes : Int)) = false := by simpa using h1'
      by_cases h2 : 12 < t.depth
      · have h2' : (12 : Int) < (t.depth : Int) := by omega
        go_wp2_with fail
        go_ret
        exact ⟨by rw [HC.out, if_pos (.inr h2)]; rfl, HB2.out⟩
      · have h2' : ¬ (12 : Int) < (t.depth : Int) := by omega
        have HC2 : Hid (chkT t nb = if twice t.labs = true then 4 else 0) := by unfold Hid; rw [HC.out, if_neg (by omega)]
        go_wp2_with fail
        refine (refLabels_any t HCN.out w2 _ HT2.out).mono ?_
        rintro e w3 ⟨v3, rfl, hrow3, hb3⟩
        have HB3 := hidIn (HB2.out.trans (hb3.mono HB2.out.size))
        obtain ⟨ao, lc, rfl, htx, hll, _⟩ := own_txt hrow3
        have HTX := hidIn htx
        have hlen : t.labs.length ≤ 1000000 := by have := HLN.out; have := HCN.out; omega
        clear hrow3 hb3 htx d0 d1 d2 d3 HC HT1 HT2 HX2 HB2
        generalize t.labs = l at *
        go_wp2_with fail
        go_loopw [29] (fun s29 wr => ∃ i : Nat, i ≤ l.length ∧ s29 = .int .i64 i ∧ Hid ((l.take i).Nodup) ∧ Below w3.heap.size w3 wr) (fun s29 _ => l.length - (intOf s29).toNat)
        case atStart => exact ⟨0, by omega, rfl, by unfold Hid; simp, Below.refl _ _⟩
        case round =>
          obtain ⟨i, hi, rfl, HN, hbr⟩ := hrel
          obtain ⟨wA, hwA⟩ : ∃ y, y = wr := ⟨_, rfl⟩
          subst hwA
          have HBA := hidIn hbr
          clear hbr
          by_cases hlt : i < l.length
          · have hlt' : (i : Int) < (l.length : Int) := by omega
            obtain ⟨s, hs⟩ : ∃ s, l[i]? = some s := ⟨_, List.getElem?_eq_getElem hlt⟩
            have HS := hidIn hs
            clear hs
            go_wp2_with fail
            go_loopw [9] (fun s9 wr => ∃ j : Nat, j ≤ i ∧ s9 = .int .i64 j ∧ Hid (∀ b, b < j → l[b]? ≠ some s) ∧ Below w3.heap.size w3 wr) (fun s9 _ => i - (intOf s9).toNat)
            case atStart => exact ⟨0, by omega, rfl, by intro b hb; omega, HBA.out⟩
            case round =>
              obtain ⟨j, hj, rfl, HJ, hbr⟩ := hrel
              by_cases hjl : j < i
              · have hjl' : (j : Int) < (i : Int) := by omega
                have hjl2 : (j : Int) < (l.length : Int) := by omega
                obtain ⟨y, hy⟩ : ∃ y, l[j]? = some y := ⟨_, List.getElem?_eq_getElem (by omega)⟩
                obtain ⟨g, rfl, k0⟩ := (HTX.out.below hbr) i s HS.out
                obtain ⟨g', eg, k1⟩ := (HTX.out.below hbr) j y hy
                have hgg : g' = g := by injection eg with eg; injection eg with eg; exact eg.symm
                subst hgg
                have HY := hidIn hy
                clear hy eg
                by_cases he : s = y
                · subst he
                  have HTW : Hid (twice l = true) := (twice_iff l).2 (fun hn => by have := nodup_get hn HS.out HY.out; omega)
                  go_wp2_with fail
                  go_quiet (fail)
                  go_wp2_with fail
                  go_ret
                  exact ⟨by rw [HC2.out, HTW.out]; rfl, HB3.out.trans ((below_drewN hbr _).mono HB3.out.size)⟩
                · have he' : ¬ s.toList = y.toList := fun e => he (toList_inj e)
                  have heb : (s.toList == y.toList) = false := by rw [beq_eq_false_iff_ne]; exact he'
                  go_wp2_with fail
                  go_quiet (fail)
                  go_wp2_with fail
                  go_roundw
                  case rel =>
                    refine ⟨j + 1, by omega, by go_num, fun b hb => ?_, below_drewN hbr _⟩
                    by_cases hbj : b = j
                    · subst hbj
                      rw [HY.out]
                      intro e
                      injection e with e
                      exact he e.symm
                    · exact HJ.out b (by omega)
                  case measure => simp [intOf]; omega
              · have hji : j = i := by omega
                subst hji
                have HN2 : Hid ((l.take (j + 1)).Nodup) := nodup_take HN.out HS.out HJ.out
                clear HJ HN hjl
                go_wp2_with fail
                go_roundw
                case rel => exact ⟨j + 1, by omega, by go_num, HN2, hbr⟩
                case measure => simp [intOf]; omega
          · have hle : i = l.length := by omega
            subst hle
            have HTW : Hid (twice l = false) := by
              have h := HN.out
              rw [List.take_length] at h
              show twice l = false
              cases ht : twice l
              · rfl
              · exact absurd h ((twice_iff l).1 ht)
            clear HN hlt
            go_wp2_with fail
            go_ret
            exact ⟨by rw [HC2.out, HTW.out]; rfl, HB3.out.trans (HBA.out.mono HB3.out.size)⟩

end Go.Proofs.YtfmjjfpajohihaaGreatDoor
