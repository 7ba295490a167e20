/- What event.Same answers, of any two events. -/
import Derived.Test.YtiaaibblihebjaaDoorEvC
import Derived.Test.YtiaaibblihebjaaDoorTermSm
namespace Go.Proofs.YtiaaibblihebjaaDoor.Ev
open Go.RowKit
set_option linter.unusedVariables false

theorem nil_runs (t : C) (h : t.Ok) : ∃ b, nilB t = b ∧ ((b = true ∧ t.val = .nilIface) ∨ (b = false ∧ ∃ x y, t.val = .iface x y)) := by
  cases t with
  | odd v =>
    rcases h with rfl | ⟨x, y, rfl, _⟩
    · exact ⟨true, rfl, .inl ⟨rfl, rfl⟩⟩
    · exact ⟨false, rfl, .inr ⟨rfl, _, _, rfl⟩⟩
  | _ => exact ⟨false, rfl, .inr ⟨rfl, _, _, rfl⟩⟩
/-- What event.sameTerm answers. -/
def sameTm (a b : C) : Bool := nilB a && nilB b || sameC a b

set_option maxHeartbeats 2000000 in
set_option maxRecDepth 100000 in
theorem sameTerm_any (a b : C) (ha : a.Ok) (hb : b.Ok) (w : World) : Calls Tryd.prog 21 #[a.val, b.val] w fun r w' => r = .returned (.bool (sameTm a b)) ∧ Below w.heap.size w w' := by
  have HS := hidIn (fun w => sameT_any a ha b hb w)
  have HR : Hid (sameTm a b = (nilB a && nilB b || sameC a b)) := rfl
  obtain ⟨na, hna, hva⟩ := nil_runs a ha
  obtain ⟨nb, hnb, hvb⟩ := nil_runs b hb
  rw [hna, hnb] at HR
  clear hna hnb ha hb
  generalize sameTm a b = res at *
  generalize sameC a b = sc at *
  rcases hva with ⟨rfl, hva⟩ | ⟨rfl, xa, ya, hva⟩ <;> rcases hvb with ⟨rfl, hvb⟩ | ⟨rfl, xb, yb, hvb⟩
  all_goals
    rw [hva, hvb] at HS
    rw [hva, hvb]
    clear hva hvb
    go_enter Tryd.func21, Tryd.ntmps21
    go_wp2_with fail
    try (refine (HS.out _).mono ?_; rintro e w1 ⟨rfl, hb⟩; have HB := hidIn hb; clear hb; go_wp2_with fail)
    go_ret
    first
      | exact ⟨by rw [HR.out]; rfl, HB.out⟩
      | exact ⟨by rw [HR.out]; rfl, Below.refl _ _⟩

theorem eq_nils (d : Nat) (W : World) : Sem.run Tryd.prog (Op.equalIn (d + 1) 26 .nilIface .nilIface) W = .ok true W := by
  simp only [Op.equalIn, Sem.run_bind, run_underlying Tryd.underlying26, Result.andThen_ok]
  rfl
/-- Whether two events are alike. -/
def sameE (a b : Ev) : Bool := (a.k == b.k) && (a.i.toList == b.i.toList) && (a.n.toList == b.n.toList) && (a.l.toList == b.l.toList) && (a.u.toList == b.u.toList) && (a.d == b.d) && (a.v == b.v) && sameTm a.t b.t

set_option maxHeartbeats 2000000 in
set_option maxRecDepth 100000 in
theorem same_any (a b : Ev) (ha : a.Ok) (hb : b.Ok) (w : World) : Calls Tryd.prog 10 #[a.val, b.val] w fun r w' => r = .returned (.bool (sameE a b)) ∧ Below w.heap.size w w' := by
  have HS := hidIn (fun w => sameTerm_any a.t b.t ha.t hb.t w)
  have HR : Hid (sameE a b = ((a.k == b.k) && (a.i.toList == b.i.toList) && (a.n.toList == b.n.toList) && (a.l.toList == b.l.toList) && (a.u.toList == b.u.toList) && (a.d == b.d) && (a.v == b.v) && sameTm a.t b.t)) := rfl
  have onea := a.t.one' ha.t
  have oneb := b.t.one' hb.t
  clear ha hb
  generalize sameE a b = res at *
  generalize sameTm a.t b.t = st at *
  obtain ⟨k, i, n, l, u, d, v, t⟩ := a
  obtain ⟨k', i', n', l', u', d', v', t'⟩ := b
  unfold Ev.val Ev.cs
  simp only at *
  generalize t.val = ta at *
  generalize t'.val = tb at *
  clear t t'
  go_enter Tryd.func10, Tryd.ntmps10
  go_wp2_with fail
  have hx0 : ((w.alloc (.cells #[.int .i64 k, .string i, .string n, .string l, .string u, .int .i64 d, .int .i64 v, ta] 38)).alloc (.cells #[.int .i64 k', .string i', .string n', .string l', .string u', .int .i64 d', .int .i64 v', tb] 38)).heap[w.heap.size]? = some (.cells #[.int .i64 k, .string i, .string n, .string l, .string u, .int .i64 d, .int .i64 v, ta] 38) := heap_keeps (heap_alloc_new _ _) _
  have hx1 : ((w.alloc (.cells #[.int .i64 k, .string i, .string n, .string l, .string u, .int .i64 d, .int .i64 v, ta] 38)).alloc (.cells #[.int .i64 k', .string i', .string n', .string l', .string u', .int .i64 d', .int .i64 v', tb] 38)).heap[w.heap.size + 1]? = some (.cells #[.int .i64 k', .string i', .string n', .string l', .string u', .int .i64 d', .int .i64 v', tb] 38) := by
    have h := heap_alloc_new (w.alloc (.cells #[.int .i64 k, .string i, .string n, .string l, .string u, .int .i64 d, .int .i64 v, ta] 38)) (.cells #[.int .i64 k', .string i', .string n', .string l', .string u', .int .i64 d', .int .i64 v', tb] 38)
    rwa [show (w.alloc (.cells #[.int .i64 k, .string i, .string n, .string l, .string u, .int .i64 d, .int .i64 v, ta] 38)).heap.size = w.heap.size + 1 by simp] at h
  have HBV : Hid (Below w.heap.size w ((w.alloc (.cells #[.int .i64 k, .string i, .string n, .string l, .string u, .int .i64 d, .int .i64 v, ta] 38)).alloc (.cells #[.int .i64 k', .string i', .string n', .string l', .string u', .int .i64 d', .int .i64 v', tb] 38))) := below_alloc (below_alloc (Below.refl _ _) _) _
  have HX0 := hidIn hx0
  have HX1 := hidIn hx1
  clear hx0 hx1
  generalize (w.alloc (.cells #[.int .i64 k, .string i, .string n, .string l, .string u, .int .i64 d, .int .i64 v, ta] 38)).alloc (.cells #[.int .i64 k', .string i', .string n', .string l', .string u', .int .i64 d', .int .i64 v', tb] 38) = V at *
  have HF : Hid (∀ w', Below V.heap.size V w' → w'.cell? ⟨w.heap.size, 7, none⟩ = some ta ∧ w'.cell? ⟨w.heap.size + 1, 7, none⟩ = some tb) := fun w' hw' => by
    have h0 := (hw'.block _ (Array.getElem?_eq_some_iff.1 HX0.out).1).trans HX0.out
    have h1 := (hw'.block _ (Array.getElem?_eq_some_iff.1 HX1.out).1).trans HX1.out
    exact ⟨cell_of_row _ _ 7 _ _ _ h0, cell_of_row _ _ 7 _ _ _ h1⟩
  refine wp_region_class (fun w' => Below V.heap.size V w') (by kernel_rfl) (by kernel_rfl) (below_drew (Below.refl _ _)) ?_
  generalize hops : (#[_, _, _, _, _, _] : Array Oper) = ops
  clear hops
  refine quiet_runs (.pointer (some ⟨w.heap.size, 7, none⟩)) (wanted_none rfl) (fun w' hw' => ?_) ?_
  · go_simp
  simp only [Act.put, List.setIfInBounds_toArray, List.set_cons_zero, List.set_cons_succ]
  refine quiet_runs (ta) (wanted_none rfl) (fun w' hw' => ?_) ?_
  · have q0 := (HF.out w' hw').1
    go_simp
  simp only [Act.put, List.setIfInBounds_toArray, List.set_cons_zero, List.set_cons_succ]
  refine quiet_runs (.pointer (some ⟨w.heap.size + 1, 7, none⟩)) (wanted_none rfl) (fun w' hw' => ?_) ?_
  · go_simp
  simp only [Act.put, List.setIfInBounds_toArray, List.set_cons_zero, List.set_cons_succ]
  refine quiet_runs (tb) (wanted_none rfl) (fun w' hw' => ?_) ?_
  · have q0 := (HF.out w' hw').2
    go_simp
  simp only [Act.put, List.setIfInBounds_toArray, List.set_cons_zero, List.set_cons_succ]
  refine quiet_runs (ta) (wanted_none rfl) (fun w' hw' => ?_) ?_
  · go_simp
  simp only [Act.put, List.setIfInBounds_toArray, List.set_cons_zero, List.set_cons_succ]
  refine quiet_runs (tb) (wanted_none rfl) (fun w' hw' => ?_) ?_
  · go_simp
  simp only [Act.put, List.setIfInBounds_toArray, List.set_cons_zero, List.set_cons_succ]
  refine wpQuiet_nil ?_
  intro w9 hw9
  have hx0 := (hw9.block _ (Array.getElem?_eq_some_iff.1 HX0.out).1).trans HX0.out
  have hx1 := (hw9.block _ (Array.getElem?_eq_some_iff.1 HX1.out).1).trans HX1.out
  have f0 : w9.frozen? ⟨w.heap.size, 7, none⟩ = false := frozen_of_row _ _ _ _ _ hx0
  have f1 : w9.frozen? ⟨w.heap.size + 1, 7, none⟩ = false := frozen_of_row _ _ _ _ _ hx1
  have e0 : w9.cell? ⟨w.heap.size, 7, none⟩ = some ta := cell_of_row _ _ 7 _ _ _ hx0
  have e1 : w9.cell? ⟨w.heap.size + 1, 7, none⟩ = some tb := cell_of_row _ _ 7 _ _ _ hx1
  have HW := hidIn hw9
  clear hw9
  go_upto_region 3 with fail
  have hy0 : ((w9.setCell ⟨w.heap.size, 7, none⟩ .nilIface).setCell ⟨w.heap.size + 1, 7, none⟩ .nilIface).heap[w.heap.size]? = some (.cells #[.int .i64 k, .string i, .string n, .string l, .string u, .int .i64 d, .int .i64 v, .nilIface] 38) := (heap_setCell_other _ ⟨w.heap.size + 1, 7, none⟩ w.heap.size _ (by show w.heap.size ≠ w.heap.size + 1; omega)).trans (heap_setCell_same _ w.heap.size 7 _ _ _ hx0)
  have hy1 : ((w9.setCell ⟨w.heap.size, 7, none⟩ .nilIface).setCell ⟨w.heap.size + 1, 7, none⟩ .nilIface).heap[w.heap.size + 1]? = some (.cells #[.int .i64 k', .string i', .string n', .string l', .string u', .int .i64 d', .int .i64 v', .nilIface] 38) := heap_setCell_same _ (w.heap.size + 1) 7 _ _ _ ((heap_setCell_other _ ⟨w.heap.size, 7, none⟩ (w.heap.size + 1) _ (by show w.heap.size + 1 ≠ w.heap.size; omega)).trans hx1)
  have HB := hidIn (((HBV.out.trans (HW.out.mono HBV.out.size)).setCell (show w.heap.size ≤ (⟨w.heap.size, 7, none⟩ : Addr).block from Nat.le_refl _) .nilIface).setCell (show w.heap.size ≤ (⟨w.heap.size + 1, 7, none⟩ : Addr).block from Nat.le_succ _) .nilIface)
  clear f0 f1 e0 e1 hx0 hx1
  generalize (w9.setCell ⟨w.heap.size, 7, none⟩ .nilIface).setCell ⟨w.heap.size + 1, 7, none⟩ .nilIface = U at *
  have x0 := cell_of_row _ _ 0 _ _ _ hy0
  have y0 := cell_of_row _ _ 0 _ _ _ hy1
  have x1 := cell_of_row _ _ 1 _ _ _ hy0
  have y1 := cell_of_row _ _ 1 _ _ _ hy1
  have x2 := cell_of_row _ _ 2 _ _ _ hy0
  have y2 := cell_of_row _ _ 2 _ _ _ hy1
  have x3 := cell_of_row _ _ 3 _ _ _ hy0
  have y3 := cell_of_row _ _ 3 _ _ _ hy1
  have x4 := cell_of_row _ _ 4 _ _ _ hy0
  have y4 := cell_of_row _ _ 4 _ _ _ hy1
  have x5 := cell_of_row _ _ 5 _ _ _ hy0
  have y5 := cell_of_row _ _ 5 _ _ _ hy1
  have x6 := cell_of_row _ _ 6 _ _ _ hy0
  have y6 := cell_of_row _ _ 6 _ _ _ hy1
  have x7 := cell_of_row _ _ 7 _ _ _ hy0
  have y7 := cell_of_row _ _ 7 _ _ _ hy1
  clear hy0 hy1
  have hnn : ∀ W, Sem.run Tryd.prog (Op.equalIn 9999 26 .nilIface .nilIface) W = .ok true W := eq_nils 9998
  go_wp2_with fail
  all_goals
    try (refine (HS.out _).mono ?_; rintro e w1 ⟨rfl, hb⟩; have HB2 := hidIn (HB.out.trans (hb.mono HB.out.size)); clear hb; go_wp2_with fail)
    go_ret
    first
      | exact ⟨by rw [HR.out]; simp [*], HB2.out⟩
      | exact ⟨by rw [HR.out]; simp [*], HB.out⟩

end Go.Proofs.YtiaaibblihebjaaDoor.Ev
