/- The walk of the statement CentsSigns. -/
import Derived.Test.YtmnijlpklgocoaaSums
namespace Go.Proofs.Ytmnijlpklgocoaa
open Go.RowKit
set_option linter.unusedVariables false

theorem sign_bd (a : Int) : -1 ≤ a.sign ∧ a.sign ≤ 1 := by
  rcases Int.lt_trichotomy a 0 with h | h | h
  · rw [Int.sign_eq_neg_one_of_neg h]; omega
  · subst h; decide
  · rw [Int.sign_eq_one_of_pos h]; omega

theorem cell_one_new (w : World) (A : Int) (t : TypeId) (i : Nat) (hi : i < 1) : (w.alloc (.cells #[.int .i64 A] t)).cell? ⟨w.heap.size, 0 + i, none⟩ = some (.int .i64 A) := by
  have : i = 0 := by omega
  subst this
  simp

set_option maxHeartbeats 2000000 in
set_option maxRecDepth 100000 in
theorem signs_walk (a b how : Int) (w : World) (ha1 : -9223372036854775808 ≤ a) (ha2 : a ≤ 9223372036854775807) (hb1 : -9223372036854775808 ≤ b) (hb2 : b ≤ 9223372036854775807) (hh1 : -9223372036854775808 ≤ how) (hh2 : how ≤ 9223372036854775807) :
    Calls Try.prog 7 #[.int .i64 a, .int .i64 b, .int .i64 how] w fun e w' => e = .returned (.bool true) ∧ Below w.heap.size w w' := by
  go_enter Try.func7, Try.ntmps7
  go_wp2_with fail
  refine calls_near (near_any a how w ha1 ha2 hh1 hh2) ?_
  intro A hA1 hA2
  have hd5 := tdiv_bd how 5 (by omega) hh1 hh2
  go_wp2_with fail
  refine calls_near (near_any b (how.tdiv 5) _ hb1 hb2 hd5.1 hd5.2) ?_
  intro B hB1 hB2
  clear hd5 ha1 ha2 hb1 hb2 hh1 hh2 hB1 hB2
  go_wp2_with fail
  refine calls_same (mul_any _ _ _) ?_
  have HS : Hid ((mulR A B).2 = true → vB A = true ∧ vB B = true ∧ vB (A * B) = true ∧ (mulR A B).1 = A * B) := mulR_true
  have HG : Hid ((A * B).sign = A.sign * B.sign) := Int.sign_mul A B
  have hsA := sign_bd A
  have hsB := sign_bd B
  have hsAB := sign_bd (A * B)
  have HNG : Hid ((-A).sign = -A.sign) := Int.sign_neg A
  generalize mulR A B = P at *
  obtain ⟨p, ok⟩ := P
  cases hv : vB A
  · cases ok
    · have HN : Hid (negR A = (0, false)) := by unfold Hid negR; rw [hv]; rfl
      have HA : Hid (addR A 0 = (0, false)) := by unfold Hid addR; rw [hv]; rfl
      have HM : Hid (mulR 0 A = (0, false)) := by unfold Hid mulR; rw [hv]; simp
      have HU : Hid (sumF (fun _ => A) 1 = (0, false)) := by unfold Hid sumF sumF addR; rw [hv]; rfl
      go_wp2_with fail
      refine calls_same (neg_any _ _) ?_
      rw [HN.out]
      go_wp2_with fail
      refine calls_same (add_any _ _ _) ?_
      rw [HA.out]
      go_wp2_with fail
      refine calls_same (mul_any _ _ _) ?_
      rw [HM.out]
      go_wp2_with fail
      refine calls_same (sum_any _ _ _ (fun _ => A) _ (fun i hi => ⟨w.heap.size, 0, rfl, cell_one_new w A 3 i hi⟩) (by omega)) ?_
      rw [HU.out]
      go_wp2_with fail
      refine calls_same (valid_any _ _) ?_
      rw [hv]
      go_wp2_with fail
      refine calls_same (wakes_any _) ?_
      go_wp2_with fail
      go_ret
      exact ⟨rfl, (Below.refl _ _).alloc (Nat.le_refl _) _⟩
    · obtain ⟨hv', _⟩ := HS.out rfl
      rw [hv] at hv'
      cases hv'
  · obtain ⟨hv1, hv2⟩ := (vB_iff A).1 hv
    have HN : Hid (negR A = (-A, true)) := by unfold Hid negR; rw [hv]; rfl
    have HN2 : Hid (negR (-A) = (A, true)) := by unfold Hid negR; rw [(vB_iff (-A)).2 (by omega)]; simp
    have HA : Hid (addR A (-A) = (0, true)) := addR_ok _ _ _ (by omega) (by omega) (by omega) (by omega)
    cases ok
    · go_wp2_with fail
      refine calls_same (neg_any _ _) ?_
      rw [HN.out]
      go_wp2_with fail
      refine calls_same (add_any _ _ _) ?_
      rw [HA.out]
      go_wp2_with fail
      refine calls_same (sign_any _ _) ?_
      rw [HNG.out]
      go_wp2_with fail
      refine calls_same (sign_any _ _) ?_
      go_wp2_with fail
      refine calls_same (neg_any _ _) ?_
      rw [HN2.out]
      go_wp2_with fail
      refine calls_same (valid_any _ _) ?_
      rw [hv]
      go_wp2_with fail
      refine calls_same (wakes_any _) ?_
      go_wp2_with fail
      go_ret
      exact ⟨rfl, Below.refl _ _⟩
    · obtain ⟨_, _, _, hp⟩ := HS.out rfl
      subst hp
      go_wp2_with fail
      refine calls_same (sign_any _ _) ?_
      rw [HG.out]
      have hpr : -1 ≤ A.sign * B.sign ∧ A.sign * B.sign ≤ 1 := by rw [← HG.out]; exact hsAB
      go_wp2_with fail
      refine calls_same (sign_any _ _) ?_
      go_wp2_with fail
      refine calls_same (sign_any _ _) ?_
      go_wp2_with fail
      refine calls_same (neg_any _ _) ?_
      rw [HN.out]
      go_wp2_with fail
      refine calls_same (add_any _ _ _) ?_
      rw [HA.out]
      go_wp2_with fail
      refine calls_same (sign_any _ _) ?_
      rw [HNG.out]
      go_wp2_with fail
      refine calls_same (sign_any _ _) ?_
      go_wp2_with fail
      refine calls_same (neg_any _ _) ?_
      rw [HN2.out]
      go_wp2_with fail
      refine calls_same (valid_any _ _) ?_
      rw [hv]
      go_wp2_with fail
      refine calls_same (wakes_any _) ?_
      go_wp2_with fail
      go_ret
      exact ⟨rfl, Below.refl _ _⟩

end Go.Proofs.Ytmnijlpklgocoaa
