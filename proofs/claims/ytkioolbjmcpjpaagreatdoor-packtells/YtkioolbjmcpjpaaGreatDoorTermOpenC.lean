/- What opens a contract: if. -/
import Derived.Test.YtkioolbjmcpjpaaGreatDoorTermV
namespace Go.Proofs.YtkioolbjmcpjpaaGreatDoor
open Go.RowKit
set_option linter.unusedVariables false
set_option maxHeartbeats 2000000 in
set_option maxRecDepth 100000 in
theorem openT_iff (o : O) (l r : C) (w : World) (ho : o.Ok) (hl : l.Ok) (hr : r.Ok) : Calls Tryz.prog 111 #[(C.iff o l r).val] w (OpenedT w (.iff o l r)) := by
  have hZero := fun v xT w => notZero 111 v xT w (by decide)
  have hOne := fun v xT w => notOne 111 v xT w (by decide)
  have hGive := fun v xT w => notGive 111 v xT w (by decide)
  have hAnd := fun v xT w => notAnd 111 v xT w (by decide)
  have hOr := fun v xT w => notOr 111 v xT w (by decide)
  have hScale := fun v xT w => notScale 111 v xT w (by decide)
  have hWhen := fun v xT w => notWhen 111 v xT w (by decide)
  have hIf := fun v xT w => isIf v xT w
  have qo := o.one' ho
  have ql := l.one' hl
  have qr := r.one' hr
  unfold C.val
  obtain ⟨vo, eo⟩ : ∃ v, o.val = v := ⟨_, rfl⟩
  rw [eo] at qo ⊢
  have Eo : Hid (o.val = vo) := eo
  have so := qo.store
  have co := qo.cells
  have mo := qo.cells
  unfold Value.cells at mo
  clear eo qo
  obtain ⟨vl, el⟩ : ∃ v, l.val = v := ⟨_, rfl⟩
  rw [el] at ql ⊢
  have El : Hid (l.val = vl) := el
  have sl := ql.store
  have cl := ql.cells
  have ml := ql.cells
  unfold Value.cells at ml
  clear el ql
  obtain ⟨vr, er⟩ : ∃ v, r.val = v := ⟨_, rfl⟩
  rw [er] at qr ⊢
  have Er : Hid (r.val = vr) := er
  have sr := qr.store
  have cr := qr.cells
  have mr := qr.cells
  unfold Value.cells at mr
  clear er qr
  go_enter Tryz.func111, Tryz.ntmps111
  go_wp2_with fail
  go_region
  all_goals
    go_wp2_with fail
    refine bodyPost_ret (results_cell_slots rfl _ _ w.heap.size 209 #[.int .i64 8, .string ⟨#[]⟩, .int .i64 0] (0, 0) _ rfl ?_ Tryz.underlying209 rfl infoHeadT) rfl ?_
    · repeat first | (with_reducible refine heap_drew ?_) | (with_reducible refine heap_at ?_; simp; done) | (with_reducible refine heap_keeps ?_ _)
    · refine ⟨some ⟨_, 0, none⟩, some ⟨_, 0, none⟩, rfl, hasObs_blk (t := 104) (x := vo) ?_ Eo.out, hasTerm_blk2 (t := 28) (x := vl) (y := vr) ?_ El.out Er.out, (fun b x s h => by cases h; omega), (fun b x s h => by cases h; omega), ?_⟩
      · repeat first | (with_reducible refine heap_drew ?_) | (with_reducible refine heap_at ?_; simp; done) | (with_reducible refine heap_keeps ?_ _)
      · repeat first | (with_reducible refine heap_drew ?_) | (with_reducible refine heap_at ?_; simp; done) | (with_reducible refine heap_keeps ?_ _)
      · repeat first | (with_reducible exact Below.refl _ _) | (with_reducible refine below_drew ?_) | (with_reducible refine below_alloc ?_ _)
end Go.Proofs.YtkioolbjmcpjpaaGreatDoor
