/- What opens a contract: what is none. -/
import Derived.Test.YtkioolbjmcpjpaaGreatDoorTermV
namespace Go.Proofs.YtkioolbjmcpjpaaGreatDoor
open Go.RowKit
set_option linter.unusedVariables false
set_option maxHeartbeats 2000000 in
set_option maxRecDepth 100000 in
theorem openT_odd (v : Value) (w : World) (h : StrangeC v) : Calls Tryz.prog 111 #[(C.odd v).val] w (OpenedT w (.odd v)) := by
  unfold C.val
  rcases h with rfl | ⟨t, x, rfl, nZero, nOne, nGive, nAnd, nOr, nScale, nWhen, nIf⟩
  · have hZero := fun xT w => nilZero xT w
    have hOne := fun xT w => nilOne xT w
    have hGive := fun xT w => nilGive xT w
    have hAnd := fun xT w => nilAnd xT w
    have hOr := fun xT w => nilOr xT w
    have hScale := fun xT w => nilScale xT w
    have hWhen := fun xT w => nilWhen xT w
    have hIf := fun xT w => nilIf xT w
    go_enter Tryz.func111, Tryz.ntmps111
    go_wp2_with fail
    refine bodyPost_ret (results_cell_slots rfl _ _ w.heap.size 209 #[.int .i64 0, .string ByteArray.empty, .int .i64 0] (0, 0) _ rfl ?_ Tryz.underlying209 rfl infoHeadT) rfl ?_
    · repeat first | exact heap_alloc_new _ _ | refine heap_drew ?_ | refine heap_keeps ?_ _
    · refine ⟨none, none, rfl, HasObs.nil _, HasTerm.nil _, (fun b x s h => by cases h), (fun b x s h => by cases h), ?_⟩
      repeat first | exact Below.refl _ _ | refine below_drew ?_ | refine below_alloc ?_ _
  · have hZero := fun v xT w => notZero t v xT w nZero
    have hOne := fun v xT w => notOne t v xT w nOne
    have hGive := fun v xT w => notGive t v xT w nGive
    have hAnd := fun v xT w => notAnd t v xT w nAnd
    have hOr := fun v xT w => notOr t v xT w nOr
    have hScale := fun v xT w => notScale t v xT w nScale
    have hWhen := fun v xT w => notWhen t v xT w nWhen
    have hIf := fun v xT w => notIf t v xT w nIf
    go_enter Tryz.func111, Tryz.ntmps111
    go_wp2_with fail
    refine bodyPost_ret (results_cell_slots rfl _ _ w.heap.size 209 #[.int .i64 0, .string ByteArray.empty, .int .i64 0] (0, 0) _ rfl ?_ Tryz.underlying209 rfl infoHeadT) rfl ?_
    · repeat first | exact heap_alloc_new _ _ | refine heap_drew ?_ | refine heap_keeps ?_ _
    · refine ⟨none, none, rfl, HasObs.nil _, HasTerm.nil _, (fun b x s h => by cases h), (fun b x s h => by cases h), ?_⟩
      repeat first | exact Below.refl _ _ | refine below_drew ?_ | refine below_alloc ?_ _
end Go.Proofs.YtkioolbjmcpjpaaGreatDoor
