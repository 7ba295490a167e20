/- The walk of the statement CentsEdges. -/
import Derived.Test.YtmnijlpklgocoaaAmts
namespace Go.Proofs.Ytmnijlpklgocoaa
open Go.RowKit
set_option linter.unusedVariables false

theorem addR_ok (a b c : Int) (ha : -1000000000000 ≤ a ∧ a ≤ 1000000000000) (hb : -1000000000000 ≤ b ∧ b ≤ 1000000000000) (h : a + b = c) (hc : -1000000000000 ≤ c ∧ c ≤ 1000000000000) : addR a b = (c, true) := by
  unfold addR; subst h
  rw [(vB_iff a).2 ha, (vB_iff b).2 hb, (vB_iff _).2 hc]; rfl
theorem addR_no (a b : Int) (h : a + b < -1000000000000 ∨ 1000000000000 < a + b) : addR a b = (0, false) := by
  unfold addR
  rw [(vB_not _).2 h]; simp
theorem mulR_ok (a b : Int) (ha : -1000000000000 ≤ a ∧ a ≤ 1000000000000) (hb : -1000000000000 ≤ b ∧ b ≤ 1000000000000) (hc : -1000000000000 ≤ a * b ∧ a * b ≤ 1000000000000) : mulR a b = (a * b, true) := by
  unfold mulR
  rw [(vB_iff a).2 ha, (vB_iff b).2 hb, (vB_iff _).2 hc]; rfl
theorem mulR_no (a b : Int) (h : a * b < -1000000000000 ∨ 1000000000000 < a * b) : mulR a b = (0, false) := by
  unfold mulR
  rw [(vB_not _).2 h]; simp

set_option maxHeartbeats 1000000 in
set_option maxRecDepth 100000 in
theorem edges_walk (n : Int) (w : World) (h1 : -9223372036854775808 ≤ n) (h2 : n ≤ 9223372036854775807) :
    Calls Try.prog 3 #[.int .i64 n] w fun e w' => e = .returned (.bool true) ∧ Below w.heap.size w w' := by
  go_enter Try.func3, Try.ntmps3
  go_wp2_with fail
  refine calls_same (within_any n 1000000000001 _ (by omega) (by omega) h1 h2) ?_
  have hq : 0 ≤ n % 1000000000001 ∧ n % 1000000000001 ≤ 1000000000000 := by omega
  generalize n % 1000000000001 = q at *
  clear h1 h2
  obtain ⟨h1, h2⟩ := hq
  go_wp2_with fail
  refine calls_same (add_any _ _ _) ?_
  rw [addR_ok _ _ 1000000000000 (by omega) (by omega) (by omega) (by omega)]
  go_wp2_with fail
  refine calls_same (add_any _ _ _) ?_
  rw [addR_no _ _ (by omega)]
  go_wp2_with fail
  refine calls_same (add_any _ _ _) ?_
  rw [addR_ok _ _ (-1000000000000) (by omega) (by omega) (by omega) (by omega)]
  go_wp2_with fail
  refine calls_same (add_any _ _ _) ?_
  rw [addR_no _ _ (by omega)]
  have hk0 : 0 ≤ q % 1000000 ∧ q % 1000000 < 1000000 := by omega
  go_wp2_with fail
  have hk : 1 ≤ 1 + q % 1000000 ∧ 1 + q % 1000000 ≤ 1000000 := by omega
  generalize 1 + q % 1000000 = k at *
  clear hk0 h1 h2
  obtain ⟨hk1, hk2⟩ := hk
  have f1 : 1000000000000 / k * k ≤ 1000000000000 := Int.ediv_mul_le _ (by omega)
  have f2 : 1000000000000 < (1000000000000 / k + 1) * k := Int.lt_ediv_add_one_mul_self _ (by omega)
  have f3 : 0 ≤ 1000000000000 / k := Int.ediv_nonneg (by omega) (by omega)
  have f4 : 1000000000000 / k ≤ 1000000000000 := Int.ediv_le_self _ (by omega)
  have f5 : 0 ≤ 1000000000000 / k * k := Int.mul_nonneg f3 (by omega)
  have F6 : Hid (mulR (1000000000000 / k) k = (1000000000000 / k * k, true)) := mulR_ok _ _ (by omega) (by omega) (by omega)
  have F7 : Hid (mulR (1000000000000 / k + 1) k = (0, false)) := mulR_no _ _ (by omega)
  have F8 : Hid (mulR (-(1000000000000 / k)) k = (-(1000000000000 / k * k), true)) := by
    unfold Hid
    rw [mulR_ok _ _ (by omega) (by omega) (by rw [Int.neg_mul]; omega), Int.neg_mul]
  clear f2
  refine calls_same (mul_any _ _ _) ?_
  rw [F6.out]
  go_wp2_with fail
  refine calls_same (mul_any _ _ _) ?_
  rw [F7.out]
  go_wp2_with fail
  refine calls_same (mul_any _ _ _) ?_
  rw [F8.out]
  go_wp2_with fail
  refine calls_same (wakes_any _) ?_
  go_wp2_with fail
  go_ret
  exact ⟨rfl, Below.refl _ _⟩

end Go.Proofs.Ytmnijlpklgocoaa
