/- What opens a contract: or, when. -/
import Derived.Test.YtkioolbjmcpjpaaGreatDoorTermV
namespace Go.Proofs.YtkioolbjmcpjpaaGreatDoor
open Go.RowKit
set_option linter.unusedVariables false
set_option maxHeartbeats 2000000 in
set_option maxRecDepth 100000 in
theorem openT_or (s : ByteArray) (l r : C) (w : World) (hl : l.Ok) (hr : r.Ok) : Calls Tryz.prog 111 #[(C.or s l r).val] w (OpenedT w (.or s l r)) := by
  have hZero := fun v xT w => notZero 103 v xT w (by decide)
  have hOne := fun v xT w => notOne 103 v xT w (by decide)
  have hGive := fun v xT w => notGive 103 v xT w (by decide)
  have hAnd := fun v xT w => notAnd 103 v xT w (by decide)
  have hOr := fun v xT w => isOr v xT w
  have ql := l.one' hl
  have qr := r.one' hr
  unfold C.val
  obtain ⟨vl, el⟩ : ∃ v, l.val = v := ⟨_, rfl⟩
  rw [el] at ql ⊢
  have El : Hid (l.val = vl) := el
  have sl := ql.store
  have cl := ql.cells
  have ml := ql.cells
  unfold Value.cells at ml
  clear el ql
  obtain ⟨vr, er⟩ : ∃ v, r.val = v := ⟨_, rfl⟩
  rw [er] at qr ⊢
  have Er : Hid (r.val = vr) := er
  have sr := qr.store
  have cr := qr.cells
  have mr := qr.cells
  unfold Value.cells at mr
  clear er qr
  go_enter Tryz.func111, Tryz.ntmps111
  go_wp2_with fail
  go_region
  all_goals
    go_wp2_with fail
    refine bodyPost_ret (results_cell_slots rfl _ _ w.heap.size 209 #[.int .i64 5, .string s, .int .i64 0] (0, 0) _ rfl ?_ Tryz.underlying209 rfl infoHeadT) rfl ?_
    · repeat first | (with_reducible refine heap_drew ?_) | (with_reducible refine heap_at ?_; simp; done) | (with_reducible refine heap_keeps ?_ _)
    · refine ⟨none, some ⟨_, 0, none⟩, rfl, HasObs.nil _, hasTerm_blk2 (t := 28) (x := vl) (y := vr) ?_ El.out Er.out, (fun b x s h => by cases h), (fun b x s h => by cases h; omega), ?_⟩
      · repeat first | (with_reducible refine heap_drew ?_) | (with_reducible refine heap_at ?_; simp; done) | (with_reducible refine heap_keeps ?_ _)
      · repeat first | (with_reducible exact Below.refl _ _) | (with_reducible refine below_drew ?_) | (with_reducible refine below_alloc ?_ _)
set_option maxHeartbeats 2000000 in
set_option maxRecDepth 100000 in
theorem openT_when (d : Int) (c : C) (w : World) (hc : c.Ok) : Calls Tryz.prog 111 #[(C.when d c).val] w (OpenedT w (.when d c)) := by
  have hZero := fun v xT w => notZero 109 v xT w (by decide)
  have hOne := fun v xT w => notOne 109 v xT w (by decide)
  have hGive := fun v xT w => notGive 109 v xT w (by decide)
  have hAnd := fun v xT w => notAnd 109 v xT w (by decide)
  have hOr := fun v xT w => notOr 109 v xT w (by decide)
  have hScale := fun v xT w => notScale 109 v xT w (by decide)
  have hWhen := fun v xT w => isWhen v xT w
  have qc := c.one' hc
  unfold C.val
  obtain ⟨vc, ec⟩ : ∃ v, c.val = v := ⟨_, rfl⟩
  rw [ec] at qc ⊢
  have Ec : Hid (c.val = vc) := ec
  have sc := qc.store
  have cc := qc.cells
  have mc := qc.cells
  unfold Value.cells at mc
  clear ec qc
  go_enter Tryz.func111, Tryz.ntmps111
  go_wp2_with fail
  go_region
  all_goals
    go_wp2_with fail
    refine bodyPost_ret (results_cell_slots rfl _ _ w.heap.size 209 #[.int .i64 7, .string ⟨#[]⟩, .int .i64 d] (0, 0) _ rfl ?_ Tryz.underlying209 rfl infoHeadT) rfl ?_
    · repeat first | (with_reducible refine heap_drew ?_) | (with_reducible refine heap_at ?_; simp; done) | (with_reducible refine heap_keeps ?_ _)
    · refine ⟨none, some ⟨_, 0, none⟩, rfl, HasObs.nil _, hasTerm_blk (t := 28) (x := vc) ?_ Ec.out, (fun b x s h => by cases h), (fun b x s h => by cases h; omega), ?_⟩
      · repeat first | (with_reducible refine heap_drew ?_) | (with_reducible refine heap_at ?_; simp; done) | (with_reducible refine heap_keeps ?_ _)
      · repeat first | (with_reducible exact Below.refl _ _) | (with_reducible refine below_drew ?_) | (with_reducible refine below_alloc ?_ _)
end Go.Proofs.YtkioolbjmcpjpaaGreatDoor
