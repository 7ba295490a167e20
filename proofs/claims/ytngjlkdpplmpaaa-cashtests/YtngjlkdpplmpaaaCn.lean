/- Package cents on one and two numbers, and the reference beside it: what each answers. -/
import Derived.Test.YtngjlkdpplmpaaaBase
namespace Go.Proofs.Ytngjlkdpplmpaaa.Cn
open Go.RowKit
set_option linter.unusedVariables false

theorem ret_two {a b : Int} {p q : Bool} (h : (a, p) = (b, q)) : Ending.returned (.tuple #[.int .i64 a, .bool p]) = .returned (.tuple #[.int .i64 b, .bool q]) := by
  injection h with h1 h2; rw [h1, h2]

def addR (a b : Int) : Int × Bool := if vB a && vB b && vB (a + b) then (a + b, true) else (0, false)
def mulR (a b : Int) : Int × Bool := if vB a && vB b && vB (a * b) then (a * b, true) else (0, false)
def negR (a : Int) : Int × Bool := if vB a then (-a, true) else (0, false)
def absI (a : Int) : Int := if a < 0 then -a else a

set_option maxHeartbeats 400000 in
theorem checked_any (n : Int) (w : World) :
    Calls Try.prog 113 #[.int .i64 n] w fun e w' => e = .returned (.tuple #[.int .i64 (if vB n then n else 0), .bool (vB n)]) ∧ w' = w := by
  cases hv : vB n
  all_goals
    go_enter Try.func113, Try.ntmps113
    go_wp2_with (go_at_call 30; refine calls_same (valid_any _ _) ?_)
    go_ret2
    exact ⟨ret_two (by simp), rfl⟩

set_option maxHeartbeats 400000 in
theorem size_any (n : Int) (w : World) (h1 : -1000000000000 ≤ n) (h2 : n ≤ 1000000000000) :
    Calls Try.prog 105 #[.int .i64 n] w fun e w' => e = .returned (.int .i64 (absI n)) ∧ w' = w := by
  by_cases h : n < 0
  all_goals
    go_enter Try.func105, Try.ntmps105
    go_wp2
    go_ret
    exact ⟨ret_int (by unfold absI; split <;> omega), rfl⟩

set_option maxHeartbeats 400000 in
theorem neg_any (n : Int) (w : World) :
    Calls Try.prog 47 #[.int .i64 n] w fun e w' => e = .returned (.tuple #[.int .i64 (negR n).1, .bool (negR n).2]) ∧ w' = w := by
  cases hv : vB n
  · go_enter Try.func47, Try.ntmps47
    go_wp2_with (go_at_call 30; refine calls_same (valid_any _ _) ?_)
    go_ret2
    exact ⟨ret_two (by simp [negR, hv]), rfl⟩
  · have hb := (vB_iff n).1 hv
    obtain ⟨hb1, hb2⟩ := hb
    go_enter Try.func47, Try.ntmps47
    go_wp2_with (go_at_call 30; refine calls_same (valid_any _ _) ?_)
    go_ret2
    exact ⟨ret_two (by simp [negR, hv]), rfl⟩

set_option maxHeartbeats 400000 in
theorem add_any (a b : Int) (w : World) :
    Calls Try.prog 109 #[.int .i64 a, .int .i64 b] w fun e w' => e = .returned (.tuple #[.int .i64 (addR a b).1, .bool (addR a b).2]) ∧ w' = w := by
  cases ha : vB a
  · go_enter Try.func109, Try.ntmps109
    go_wp2_with (go_at_call 30; refine calls_same (valid_any _ _) ?_)
    go_ret2
    exact ⟨ret_two (by simp [addR, ha]), rfl⟩
  cases hb : vB b
  · go_enter Try.func109, Try.ntmps109
    go_wp2_with (go_at_call 30; refine calls_same (valid_any _ _) ?_)
    go_ret2
    exact ⟨ret_two (by simp [addR, ha, hb]), rfl⟩
  obtain ⟨h1, h2⟩ := (vB_iff a).1 ha
  obtain ⟨h3, h4⟩ := (vB_iff b).1 hb
  cases hc : vB (a + b)
  all_goals
    go_enter Try.func109, Try.ntmps109
    go_wp2_with (first | (go_at_call 30; refine calls_same (valid_any _ _) ?_) | (go_at_call 113; refine calls_same (checked_any _ _) ?_))
    go_ret2
    exact ⟨ret_two (by simp [addR, ha, hb, hc]), rfl⟩

theorem mul_abs (a b : Int) (ha : a ≠ 0) : (decide (1000000000000 / absI a < absI b)) = !vB (a * b) := by
  have h1 : 0 < absI a := by unfold absI; split <;> omega
  have h2 : absI b * absI a = absI (a * b) := by
    unfold absI
    by_cases x : a < 0 <;> by_cases y : b < 0
    · have : ¬ a * b < 0 := by have := Int.mul_pos_of_neg_of_neg x y; omega
      rw [if_pos x, if_pos y, if_neg this, Int.neg_mul_neg, Int.mul_comm]
    · by_cases z : b = 0
      · subst z; simp
      · have : a * b < 0 := Int.mul_neg_of_neg_of_pos x (by omega)
        rw [if_pos x, if_neg y, if_pos this, Int.mul_neg, Int.mul_comm]
    · have : a * b < 0 := Int.mul_neg_of_pos_of_neg (by omega) y
      rw [if_neg x, if_pos y, if_pos this, Int.neg_mul, Int.mul_comm]
    · have : ¬ a * b < 0 := by have := Int.mul_nonneg (show 0 ≤ a by omega) (show 0 ≤ b by omega); omega
      rw [if_neg x, if_neg y, if_neg this, Int.mul_comm]
  have h3 : absI b ≤ 1000000000000 / absI a ↔ absI b * absI a ≤ 1000000000000 := Int.le_ediv_iff_mul_le h1
  rw [h2] at h3
  have h4 : absI (a * b) ≤ 1000000000000 ↔ vB (a * b) = true := by
    rw [vB_iff]; unfold absI; split <;> omega
  cases h5 : vB (a * b)
  · rw [h5] at h4
    have : ¬ absI b ≤ 1000000000000 / absI a := by rw [h3, h4]; simp
    simp; omega
  · rw [h5] at h4
    have : absI b ≤ 1000000000000 / absI a := by rw [h3, h4]
    simp; omega

set_option maxHeartbeats 400000 in
theorem tooMany_any (a b : Int) (w : World) (h1 : -1000000000000 ≤ a) (h2 : a ≤ 1000000000000) (h3 : -1000000000000 ≤ b) (h4 : b ≤ 1000000000000) :
    Calls Try.prog 98 #[.int .i64 a, .int .i64 b] w fun e w' => e = .returned (.bool (!vB (a * b))) ∧ w' = w := by
  by_cases h : a = 0
  · subst h
    have HV : Hid (vB (0 * b) = true) := by rw [Int.zero_mul]; exact rfl
    go_enter Try.func98, Try.ntmps98
    go_wp2_with (go_at_call 105; refine calls_same (size_any _ _ (by omega) (by omega)) ?_)
    go_ret
    exact ⟨ret_bool (by rw [HV.out]; rfl), rfl⟩
  · have e0 : (a != 0) = true := by simpa using h
    have HM : Hid (decide (1000000000000 / absI a < absI b) = !vB (a * b)) := mul_abs a b h
    have hp : 0 < absI a := by unfold absI; split <;> omega
    have hp' : absI a ≤ 1000000000000 := by unfold absI; split <;> omega
    have hq : 0 ≤ absI b := by unfold absI; split <;> omega
    have hq' : absI b ≤ 1000000000000 := by unfold absI; split <;> omega
    go_enter Try.func98, Try.ntmps98
    go_wp2_with (go_at_call 105; refine calls_same (size_any _ _ (by omega) (by omega)) ?_)
    go_ret
    exact ⟨ret_bool (by rw [← HM.out]), rfl⟩

set_option maxHeartbeats 400000 in
theorem mul_any (a b : Int) (w : World) :
    Calls Try.prog 81 #[.int .i64 a, .int .i64 b] w fun e w' => e = .returned (.tuple #[.int .i64 (mulR a b).1, .bool (mulR a b).2]) ∧ w' = w := by
  cases ha : vB a
  · go_enter Try.func81, Try.ntmps81
    go_wp2_with (go_at_call 30; refine calls_same (valid_any _ _) ?_)
    go_ret2
    exact ⟨ret_two (by simp [mulR, ha]), rfl⟩
  cases hb : vB b
  · go_enter Try.func81, Try.ntmps81
    go_wp2_with (go_at_call 30; refine calls_same (valid_any _ _) ?_)
    go_ret2
    exact ⟨ret_two (by simp [mulR, ha, hb]), rfl⟩
  have h12 := (vB_iff a).1 ha
  have h34 := (vB_iff b).1 hb
  cases hc : vB (a * b)
  · go_enter Try.func81, Try.ntmps81
    go_wp2_with (first | (go_at_call 30; refine calls_same (valid_any _ _) ?_) | (go_at_call 98; refine calls_same (tooMany_any _ _ _ h12.1 h12.2 h34.1 h34.2) ?_))
    go_ret2
    exact ⟨ret_two (by simp [mulR, ha, hb, hc]), rfl⟩
  · have h56 := (vB_iff (a * b)).1 hc
    go_enter Try.func81, Try.ntmps81
    go_wp2_with (first | (go_at_call 30; refine calls_same (valid_any _ _) ?_) | (go_at_call 98; refine calls_same (tooMany_any _ _ _ h12.1 h12.2 h34.1 h34.2) ?_))
    go_ret2
    exact ⟨ret_two (by simp [mulR, ha, hb, hc]), rfl⟩

set_option maxHeartbeats 400000 in
theorem refAdd_any (a b : Int) (w : World) :
    Calls Try.prog 90 #[.int .i64 a, .int .i64 b] w fun e w' => e = .returned (.tuple #[.int .i64 (addR a b).1, .bool (addR a b).2]) ∧ w' = w := by
  cases ha : vB a
  · go_enter Try.func90, Try.ntmps90
    go_wp2_with (go_at_call 86; refine calls_same (refValid_any _ _) ?_)
    go_ret2
    exact ⟨ret_two (by simp [addR, ha]), rfl⟩
  cases hb : vB b
  · go_enter Try.func90, Try.ntmps90
    go_wp2_with (go_at_call 86; refine calls_same (refValid_any _ _) ?_)
    go_ret2
    exact ⟨ret_two (by simp [addR, ha, hb]), rfl⟩
  obtain ⟨h1, h2⟩ := (vB_iff a).1 ha
  obtain ⟨h3, h4⟩ := (vB_iff b).1 hb
  cases hc : vB (a + b)
  all_goals
    go_enter Try.func90, Try.ntmps90
    go_wp2_with (go_at_call 86; refine calls_same (refValid_any _ _) ?_)
    go_ret2
    exact ⟨ret_two (by simp [addR, ha, hb, hc]), rfl⟩

set_option maxHeartbeats 1000000 in
theorem refMul_any (a b : Int) (w : World) :
    Calls Try.prog 66 #[.int .i64 a, .int .i64 b] w fun e w' => e = .returned (.tuple #[.int .i64 (mulR a b).1, .bool (mulR a b).2]) ∧ w' = w := by
  cases ha : vB a
  · go_enter Try.func66, Try.ntmps66
    go_wp2_with (go_at_call 86; refine calls_same (refValid_any _ _) ?_)
    go_ret2
    exact ⟨ret_two (by simp [mulR, ha]), rfl⟩
  cases hb : vB b
  · go_enter Try.func66, Try.ntmps66
    go_wp2_with (go_at_call 86; refine calls_same (refValid_any _ _) ?_)
    go_ret2
    exact ⟨ret_two (by simp [mulR, ha, hb]), rfl⟩
  have h12 := (vB_iff a).1 ha
  have h34 := (vB_iff b).1 hb
  by_cases h : a = 0
  · subst h
    have HV : Hid (mulR 0 b = (0, true)) := by unfold Hid mulR; rw [Int.zero_mul, hb]; rfl
    go_enter Try.func66, Try.ntmps66
    go_wp2_with (go_at_call 86; refine calls_same (refValid_any _ _) ?_)
    go_ret2
    exact ⟨ret_two (by rw [HV.out]), rfl⟩
  have hm := mul_abs a b h
  have HM : Hid (mulR a b = if vB (a * b) then (a * b, true) else (0, false)) := by unfold Hid mulR; rw [ha, hb]; rfl
  by_cases x : a < 0
  · obtain ⟨c, rfl⟩ : ∃ c : Int, a = -c := ⟨-a, by omega⟩
    have hc0 : 0 < c := by omega
    have hc1 : c ≤ 1000000000000 := by omega
    obtain ⟨h3, h4⟩ := h34
    have e0 : (-c != 0) = true := by simp; omega
    rw [show absI (-c) = c from by unfold absI; rw [if_pos x, Int.neg_neg]] at hm
    clear h12 x h
    by_cases y : b < 0
    · rw [show absI b = -b from by unfold absI; rw [if_pos y]] at hm
      cases hc : vB (-c * b)
      · rw [hc] at hm
        simp only [Bool.not_false, decide_eq_true_eq] at hm
        go_enter Try.func66, Try.ntmps66
        go_wp2_with (go_at_call 86; refine calls_same (refValid_any _ _) ?_)
        go_ret2
        exact ⟨ret_two (by rw [HM.out]; simp [hc]), rfl⟩
      · rw [hc] at hm
        simp only [Bool.not_true, decide_eq_false_iff_not] at hm
        have h7 := (vB_iff (-c * b)).1 hc
        go_enter Try.func66, Try.ntmps66
        go_wp2_with (go_at_call 86; refine calls_same (refValid_any _ _) ?_)
        go_ret2
        exact ⟨ret_two (by rw [HM.out]; simp [hc]), rfl⟩
    · rw [show absI b = b from by unfold absI; rw [if_neg y]] at hm
      cases hc : vB (-c * b)
      · rw [hc] at hm
        simp only [Bool.not_false, decide_eq_true_eq] at hm
        go_enter Try.func66, Try.ntmps66
        go_wp2_with (go_at_call 86; refine calls_same (refValid_any _ _) ?_)
        go_ret2
        exact ⟨ret_two (by rw [HM.out]; simp [hc]), rfl⟩
      · rw [hc] at hm
        simp only [Bool.not_true, decide_eq_false_iff_not] at hm
        have h7 := (vB_iff (-c * b)).1 hc
        go_enter Try.func66, Try.ntmps66
        go_wp2_with (go_at_call 86; refine calls_same (refValid_any _ _) ?_)
        go_ret2
        exact ⟨ret_two (by rw [HM.out]; simp [hc]), rfl⟩
  · have hc0 : 0 < a := by omega
    have hc1 : a ≤ 1000000000000 := by omega
    obtain ⟨h3, h4⟩ := h34
    have e0 : (a != 0) = true := by simpa using h
    rw [show absI a = a from by unfold absI; rw [if_neg x]] at hm
    clear h12 x h
    by_cases y : b < 0
    · rw [show absI b = -b from by unfold absI; rw [if_pos y]] at hm
      cases hc : vB (a * b)
      · rw [hc] at hm
        simp only [Bool.not_false, decide_eq_true_eq] at hm
        go_enter Try.func66, Try.ntmps66
        go_wp2_with (go_at_call 86; refine calls_same (refValid_any _ _) ?_)
        go_ret2
        exact ⟨ret_two (by rw [HM.out]; simp [hc]), rfl⟩
      · rw [hc] at hm
        simp only [Bool.not_true, decide_eq_false_iff_not] at hm
        have h7 := (vB_iff (a * b)).1 hc
        go_enter Try.func66, Try.ntmps66
        go_wp2_with (go_at_call 86; refine calls_same (refValid_any _ _) ?_)
        go_ret2
        exact ⟨ret_two (by rw [HM.out]; simp [hc]), rfl⟩
    · rw [show absI b = b from by unfold absI; rw [if_neg y]] at hm
      cases hc : vB (a * b)
      · rw [hc] at hm
        simp only [Bool.not_false, decide_eq_true_eq] at hm
        go_enter Try.func66, Try.ntmps66
        go_wp2_with (go_at_call 86; refine calls_same (refValid_any _ _) ?_)
        go_ret2
        exact ⟨ret_two (by rw [HM.out]; simp [hc]), rfl⟩
      · rw [hc] at hm
        simp only [Bool.not_true, decide_eq_false_iff_not] at hm
        have h7 := (vB_iff (a * b)).1 hc
        go_enter Try.func66, Try.ntmps66
        go_wp2_with (go_at_call 86; refine calls_same (refValid_any _ _) ?_)
        go_ret2
        exact ⟨ret_two (by rw [HM.out]; simp [hc]), rfl⟩

end Go.Proofs.Ytngjlkdpplmpaaa.Cn
