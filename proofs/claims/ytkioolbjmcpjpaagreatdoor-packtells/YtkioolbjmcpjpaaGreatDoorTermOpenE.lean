/- What opens a contract: scale. -/
import Derived.Test.YtkioolbjmcpjpaaGreatDoorTermV
namespace Go.Proofs.YtkioolbjmcpjpaaGreatDoor
open Go.RowKit
set_option linter.unusedVariables false
set_option maxHeartbeats 2000000 in
set_option maxRecDepth 100000 in
theorem openT_scale (o : O) (c : C) (w : World) (ho : o.Ok) (hc : c.Ok) : Calls Tryz.prog 111 #[(C.scale o c).val] w (OpenedT w (.scale o c)) := by
  have hZero := fun v xT w => notZero 107 v xT w (by decide)
  have hOne := fun v xT w => notOne 107 v xT w (by decide)
  have hGive := fun v xT w => notGive 107 v xT w (by decide)
  have hAnd := fun v xT w => notAnd 107 v xT w (by decide)
  have hOr := fun v xT w => notOr 107 v xT w (by decide)
  have hScale := fun v xT w => isScale v xT w
  have qo := o.one' ho
  have qc := c.one' hc
  unfold C.val
  obtain ⟨vo, eo⟩ : ∃ v, o.val = v := ⟨_, rfl⟩
  rw [eo] at qo ⊢
  have Eo : Hid (o.val = vo) := eo
  have so := qo.store
  have co := qo.cells
  have mo := qo.cells
  unfold Value.cells at mo
  clear eo qo
  obtain ⟨vc, ec⟩ : ∃ v, c.val = v := ⟨_, rfl⟩
  rw [ec] at qc ⊢
  have Ec : Hid (c.val = vc) := ec
  have sc := qc.store
  have cc := qc.cells
  have mc := qc.cells
  unfold Value.cells at mc
  clear ec qc
  go_enter Tryz.func111, Tryz.ntmps111
  go_wp2_with fail
  go_region
  all_goals
    go_wp2_with fail
    refine bodyPost_ret (results_cell_slots rfl _ _ w.heap.size 209 #[.int .i64 6, .string ⟨#[]⟩, .int .i64 0] (0, 0) _ rfl ?_ Tryz.underlying209 rfl infoHeadT) rfl ?_
    · repeat first | (with_reducible refine heap_drew ?_) | (with_reducible refine heap_at ?_; simp; done) | (with_reducible refine heap_keeps ?_ _)
    · refine ⟨some ⟨_, 0, none⟩, some ⟨_, 0, none⟩, rfl, hasObs_blk (t := 104) (x := vo) ?_ Eo.out, hasTerm_blk (t := 28) (x := vc) ?_ Ec.out, (fun b x s h => by cases h; omega), (fun b x s h => by cases h; omega), ?_⟩
      · repeat first | (with_reducible refine heap_drew ?_) | (with_reducible refine heap_at ?_; simp; done) | (with_reducible refine heap_keeps ?_ _)
      · repeat first | (with_reducible refine heap_drew ?_) | (with_reducible refine heap_at ?_; simp; done) | (with_reducible refine heap_keeps ?_ _)
      · repeat first | (with_reducible exact Below.refl _ _) | (with_reducible refine below_drew ?_) | (with_reducible refine below_alloc ?_ _)
end Go.Proofs.YtkioolbjmcpjpaaGreatDoor
