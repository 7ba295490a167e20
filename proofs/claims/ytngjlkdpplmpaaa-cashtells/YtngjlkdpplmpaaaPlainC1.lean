/- A contract as a tree: leaves, Give. -/
import Derived.Test.YtngjlkdpplmpaaaPlainO2
namespace Go.Proofs.Ytngjlkdpplmpaaa
open Go.RowKit
set_option linter.unusedVariables false

/-- What is known of the calls on the parts. -/
def MakesC (c : C) : Prop := ∀ w : World, Calls Try.prog 34 #[c.val] w (TreePost w (plainC c))
set_option maxHeartbeats 1000000 in
set_option maxRecDepth 100000 in
theorem plainC_zero : MakesC C.zero := by
  intro w
  have a0 := fun v xT w => isZero v xT w
  unfold C.val
  go_enter Try.func34, Try.ntmps34
  go_wp2_with fail
  refine bodyPost_ret (results_cell_row rfl _ _ w.heap.size 72 #[.int .i64 1, .string ⟨#[]⟩, .int .i64 0, .slice none 0 0] (0, 0) _ rfl ?blk Try.underlying72 rfl infoT) rfl ?post
  case blk => change Blk _ _ _ _; (first | exact blk_keep (blk_new rfl) _ | exact blk_new rfl)
  case post => exact tree_leaf _ _ _ _ _ (by repeat first | exact Below.refl _ _ | refine below_alloc ?_ _)
set_option maxHeartbeats 1000000 in
set_option maxRecDepth 100000 in
theorem plainC_one (s : ByteArray) : MakesC (C.one s) := by
  intro w
  have a0 := fun v xT w => notZero 24 v xT w (by decide)
  have a1 := fun v xT w => isOne v xT w
  unfold C.val
  go_enter Try.func34, Try.ntmps34
  go_wp2_with fail
  refine bodyPost_ret (results_cell_row rfl _ _ w.heap.size 72 #[.int .i64 2, .string s, .int .i64 0, .slice none 0 0] (0, 0) _ rfl ?blk Try.underlying72 rfl infoT) rfl ?post
  case blk => change Blk _ _ _ _; (first | exact blk_keep (blk_new rfl) _ | exact blk_new rfl)
  case post => exact tree_leaf _ _ _ _ _ (by repeat first | exact Below.refl _ _ | refine below_alloc ?_ _)
set_option maxHeartbeats 1000000 in
set_option maxRecDepth 100000 in
theorem plainC_odd (v : Value) (h : StrangeC v) : MakesC (.odd v) := by
  intro w
  show Calls _ _ #[v] _ _
  rcases h with rfl | ⟨t, x, rfl, h0, h1, h2, h3, h4, h5, h6, h7⟩
  · have a0 := nilZero
    have a1 := nilOne
    have a2 := nilGive
    have a3 := nilAnd
    have a4 := nilOr
    have a5 := nilScale
    have a6 := nilWhen
    have a7 := nilIf
    go_enter Try.func34, Try.ntmps34
    go_wp2_with fail
    refine bodyPost_ret (results_cell_row rfl _ _ w.heap.size 72 #[.int .i64 0, .string ⟨#[]⟩, .int .i64 0, .slice none 0 0] (0, 0) _ rfl ?blk Try.underlying72 rfl infoT) rfl ?post
    case blk => change Blk _ _ _ _; exact blk_new rfl
    case post => exact tree_leaf _ _ _ _ _ (by repeat first | exact Below.refl _ _ | refine below_alloc ?_ _)
  · have a0 := fun v xT w => notZero t v xT w h0
    have a1 := fun v xT w => notOne t v xT w h1
    have a2 := fun v xT w => notGive t v xT w h2
    have a3 := fun v xT w => notAnd t v xT w h3
    have a4 := fun v xT w => notOr t v xT w h4
    have a5 := fun v xT w => notScale t v xT w h5
    have a6 := fun v xT w => notWhen t v xT w h6
    have a7 := fun v xT w => notIf t v xT w h7
    go_enter Try.func34, Try.ntmps34
    go_wp2_with fail
    refine bodyPost_ret (results_cell_row rfl _ _ w.heap.size 72 #[.int .i64 0, .string ⟨#[]⟩, .int .i64 0, .slice none 0 0] (0, 0) _ rfl ?blk Try.underlying72 rfl infoT) rfl ?post
    case blk => change Blk _ _ _ _; exact blk_new rfl
    case post => exact tree_leaf _ _ _ _ _ (by repeat first | exact Below.refl _ _ | refine below_alloc ?_ _)
set_option maxHeartbeats 1000000 in
set_option maxRecDepth 100000 in
theorem plainC_give (c : C) (q : One' c.val) (ih : MakesC c) : MakesC (.give c) := by
  intro w
  have a0 := fun v xT w => notZero 34 v xT w (by decide)
  have a1 := fun v xT w => notOne 34 v xT w (by decide)
  have a2 := fun v xT w => isGive v xT w
  have HIH := hidIn ih
  have hs0 := q.store
  have cv0 := q.cells
  have mv0 := q.cells
  unfold Value.cells at mv0
  unfold C.val
  clear ih q
  go_enter Try.func34, Try.ntmps34
  go_wp2_with fail
  obtain ⟨W, hW⟩ : ∃ W, W = (w.alloc (.cells #[.int .i64 0, .string ⟨#[]⟩, .int .i64 0, .slice none 0 0] 72)).alloc (.cells #[c.val] 34) := ⟨_, rfl⟩
  have HB : Hid (Below w.heap.size w W) := by rw [hW]; exact below_alloc (below_alloc (Below.refl _ _) _) _
  have HZ : Hid (Blk W w.heap.size 72 zeroT) := by rw [hW]; exact blk_keep (blk_new rfl) _
  have HX : Hid (Blk W (w.heap.size + 1) 34 #[c.val]) := by rw [hW]; exact blk_new (by simp)
  have HWS : Hid (W.heap.size = w.heap.size + 2) := by unfold Hid; rw [hW]; simp
  rw [← hW]
  clear hW
  refine (HIH.out W).mono ?_
  rintro e w1 ⟨ka, kc, rfl, ht1, hb1⟩
  have HT1 := hidIn ht1
  have HB1 := hidIn hb1
  have hZ1 := HZ.out.below hb1 HZ.out.lt
  obtain ⟨⟨z0, z1, z2, z3⟩, f0, f1, f2, f3⟩ := blk_zero hZ1
  have HZ1 := hidIn hZ1
  have hlt := hZ1.lt
  have hne : w.heap.size ≠ w1.heap.size := by omega
  have hfr : ∀ (o : Obj) (k : Nat), (w1.alloc o).frozen? ⟨w.heap.size, k, none⟩ = w1.frozen? ⟨w.heap.size, k, none⟩ := fun o k => (below_alloc (Below.refl _ _) o).frozen (p := ⟨w.heap.size, k, none⟩) hlt
  clear hb1 ht1 hZ1
  go_wp2_with fail
  refine bodyPost_ret (results_cell_row rfl _ _ w.heap.size 72 #[.int .i64 3, .string ⟨#[]⟩, .int .i64 0, .slice (some ⟨w1.heap.size, 0, none⟩) 1 1] (0, 0) _ rfl ?blk Try.underlying72 rfl infoT) rfl ?post
  case blk => change Blk _ _ _ _; (first | with_reducible exact blk_set4 HZ1.out _ _ _ _ _ | with_reducible exact blk_set4' (blk_keep HZ1.out _) _ _ _ _)
  case post =>
    have hbw : Below w.heap.size w w1 := HB.out.trans (HB1.out.mono HB.out.size)
    have hWS := HWS.out
    have hs1 := HB1.out.size
    refine tree_one (w := w) (w3 := w1.alloc (.cells (four (plainC c) ka kc) 72)) (B := W.heap.size) (t := plainC c) (kat_one (HT1.out.below (below_alloc (Below.refl _ _) _)) hs1 (blk_new rfl)) ?_ (by omega) ?_
    · intro k x v hk hv
      first
        | (rw [cell_alloc_set4 (by omega)]; exact hv)
        | (rw [set4_cell' (by omega)]; exact hv)
    · (repeat first | with_reducible exact hbw | with_reducible refine below_alloc ?_ _ | with_reducible refine below_set ?_ (by omega) _ _)

end Go.Proofs.Ytngjlkdpplmpaaa
